/- Several of my texts, laid as one. -/
import Derived.Test.YtkecekfapiegjaaDoorM4Blk
import Derived.StillTail
import Derived.Test.YtkecekfapiegjaaDoorM5Sha
import Derived.Deep.AppendLies
import Derived.Test.YtkecekfapiegjaaDoorM5Pln
/-
  The document's right, Start and Table, walked.
-/
namespace Go.Proofs.YtkecekfapiegjaaDoor
set_option linter.unusedVariables false
set_option linter.unusedSimpArgs false
set_option maxRecDepth 10000
open Go.RowKit

set_option maxHeartbeats 1000000 in
theorem right_any (x : B32) (n : Nat) (h1 : 1 ≤ n) (h2 : n < 32) (w : World) : Calls Tryd.prog 122 #[.int .u32 (iv x), .int .u64 n] w (Plain (.int .u32 (iv (rot x n))) w) := by
  have e1 : IntKind.u64.wrap (32 - (n : Int)) = ((32 - n : Nat) : Int) := by simp [IntKind.wrap, IntKind.bits, IntKind.signed]; omega
  obtain ⟨m, hm⟩ : ∃ m, 32 - n = m := ⟨_, rfl⟩
  rw [hm] at e1
  have hrot : bits .or .u32 (iv x / 2 ^ n) (iv x * 2 ^ m % 4294967296) = iv (rot x n) := by
    rw [iv_shlm, iv_shr, iv_or, ← hm]; rfl
  have HR := hideIt hrot
  clear hrot
  go_enter Tryd.func122, Tryd.ntmps122
  go_wp2
  rw [HR.out]
  go_ret
  exact ⟨rfl, rfl⟩
theorem right_lit (x : B32) (n : Nat) (k : Int) (hk : k = n) (h1 : 1 ≤ n) (h2 : n < 32) (w : World) : Calls Tryd.prog 122 #[.int .u32 (iv x), .int .u64 k] w (Plain (.int .u32 (iv (rot x n))) w) := by
  subst hk; exact right_any x n h1 h2 w

set_option maxHeartbeats 1000000 in
theorem start_any (w : World) : Calls Tryd.prog 110 #[] w (Tells (.agg #[.int .u32 (iv st0.a), .int .u32 (iv st0.b), .int .u32 (iv st0.c), .int .u32 (iv st0.d), .int .u32 (iv st0.e), .int .u32 (iv st0.f), .int .u32 (iv st0.g), .int .u32 (iv st0.h)]) w.heap.size w) := by
  go_enter Tryd.func110, Tryd.ntmps110
  go_wp2
  obtain ⟨i0, i1, i2, i3, i4, i5, i6, i7⟩ := st0_iv
  exact bodyPost_ret (v := .agg #[.int .u32 (iv st0.a), .int .u32 (iv st0.b), .int .u32 (iv st0.c), .int .u32 (iv st0.d), .int .u32 (iv st0.e), .int .u32 (iv st0.f), .int .u32 (iv st0.g), .int .u32 (iv st0.h)]) (by simp [results, Tryd.results110, go_sem, i0, i1, i2, i3, i4, i5, i6, i7]) rfl ⟨rfl, (Below.refl _ _).alloc (Nat.le_refl _) _⟩
def kLit : Array Value := #[.int .u32 1116352408, .int .u32 1899447441, .int .u32 3049323471, .int .u32 3921009573, .int .u32 961987163, .int .u32 1508970993, .int .u32 2453635748, .int .u32 2870763221, .int .u32 3624381080, .int .u32 310598401, .int .u32 607225278, .int .u32 1426881987, .int .u32 1925078388, .int .u32 2162078206, .int .u32 2614888103, .int .u32 3248222580, .int .u32 3835390401, .int .u32 4022224774, .int .u32 264347078, .int .u32 604807628, .int .u32 770255983, .int .u32 1249150122, .int .u32 1555081692, .int .u32 1996064986, .int .u32 2554220882, .int .u32 2821834349, .int .u32 2952996808, .int .u32 3210313671, .int .u32 3336571891, .int .u32 3584528711, .int .u32 113926993, .int .u32 338241895, .int .u32 666307205, .int .u32 773529912, .int .u32 1294757372, .int .u32 1396182291, .int .u32 1695183700, .int .u32 1986661051, .int .u32 2177026350, .int .u32 2456956037, .int .u32 2730485921, .int .u32 2820302411, .int .u32 3259730800, .int .u32 3345764771, .int .u32 3516065817, .int .u32 3600352804, .int .u32 4094571909, .int .u32 275423344, .int .u32 430227734, .int .u32 506948616, .int .u32 659060556, .int .u32 883997877, .int .u32 958139571, .int .u32 1322822218, .int .u32 1537002063, .int .u32 1747873779, .int .u32 1955562222, .int .u32 2024104815, .int .u32 2227730452, .int .u32 2361852424, .int .u32 2428436474, .int .u32 2756734187, .int .u32 3204031479, .int .u32 3329325298]
theorem kLit_eq : kLit = arr kB := by kernel_rfl
set_option maxHeartbeats 1000000 in
theorem table_any (w : World) : Calls Tryd.prog 109 #[] w fun e w' => e = .returned (.slice (some ⟨w.heap.size, 0, none⟩) 64 64) ∧ Box w' w.heap.size 140 (arr kB) ∧ Below w.heap.size w w' := by
  rw [← kLit_eq]
  go_enter Tryd.func109, Tryd.ntmps109
  go_wp2
  go_ret
  refine ⟨rfl, ?_, (Below.refl _ _).alloc (Nat.le_refl _) _⟩
  unfold kLit
  exact Box.made w 140 _

end Go.Proofs.YtkecekfapiegjaaDoor
/-
  The document's Padding, walked: what is put behind a text of whatever length.
-/
namespace Go.Proofs.YtkecekfapiegjaaDoor
set_option linter.unusedVariables false
set_option linter.unusedSimpArgs false
set_option maxRecDepth 10000
open Go.RowKit

/-- 'append(s, x...)' on rows of bytes: s a row of the call's own, x any row, an empty one too. -/
theorem wpl_append_rows {ops : Array Oper} {rest : List Oper} {o : Oper} {a : Act} {w : World} {Q : Exit → Act → World → Prop} (base : Nat) (hgd : o.guard = none) (s x : Operand)
    (ho : o.op = .call { callee := .builtin .append, args := #[s, x], argTypes := #[135, 135] })
    (v : Value) (n : Nat) (xs : List Int) (hs : a.eval s = v) (hown : w.ownsRow base 5 1 v n (u8s xs))
    (v2 : Value) (m : Nat) (ys : List Int) (base2 : Nat) (hx : a.eval x = v2) (hown2 : w.ownsRow base2 5 1 v2 m (u8s ys)) (hnm : n + m ≤ 1000000) (hbase : base ≤ w.heap.size)
    (h : ∀ v' w', w'.ownsRow base 5 1 v' (n + m) (u8s (xs ++ ys)) → w.grownBy w' v.ownBlock → wpList Tryd.prog ops Q rest (a.put o.dst v') w') : wpList Tryd.prog ops Q (o :: rest) a w := by
  obtain ⟨i0, hi, hz0, hz1, hz2⟩ := info_parts info_u8
  have hl : ys.length = m := by have := hown2.1; rw [u8s_len] at this; omega
  rcases hown2.2 with ⟨rfl, rfl⟩ | ⟨g, cap, cur, rfl, hb, hg, hc, hm, hcs, r⟩
  · obtain rfl : ys = [] := List.length_eq_zero_iff.1 hl
    refine wpList_plain hgd fun K hK => ?_
    have hrun := run_append_owned_none (P := Tryd.prog) w base 135 o.type 5 i0 1 Tryd.underlying135 hi v n (u8s xs) hown
    unfold Oper.wp
    simp [execOp, ho, resolve, invoke, builtin, hs, hx, hrun, Result.andThen]
    exact hK _ _ (h v w (by simpa using hown) ⟨rfl, rfl, rfl, Nat.le_refl _, fun _ _ _ => rfl⟩)
  · have hcell : ∀ j u, (u8s ys)[j]? = some u → w.cell? ((⟨g, 0, none⟩ : Addr).add j) = some u := fun j u hu => by
      have e1 : (⟨g, 0, none⟩ : Addr).add j = ⟨g, j, none⟩ := by simp [Addr.add]; exact fun hj => hj.symm
      rw [e1]
      have hj : j < m * 1 := by rw [← hown2.1]; exact (List.getElem?_eq_some_iff.1 hu).1
      have := hown2.cellAt j hj
      rw [this, hu]
    refine wpList_append_own w hgd s x 135 ho base 5 i0 (.int .u8 0) 1 1 Tryd.underlying135 hi hz0 hz1 hz2 rfl (by decide) v n (u8s xs) hs hown ⟨g, 0, none⟩ m cap (u8s ys) hx (by rw [u8s_len]; omega) hcell (u8s_one _)
      (by unfold maxLen; omega) (by omega) hbase ?_
    intro v' w' h1 h2 _
    exact h v' w' (by rw [u8s_app]; exact h1) h2

/-- The last so many of a number's eight bytes, the greatest first. -/
def tl8 (V : Int) : Nat → List Int
  | 0 => []
  | i + 1 => (V / 256 ^ i % 256) :: tl8 V i
theorem tl8_len (V : Int) : ∀ i, (tl8 V i).length = i
  | 0 => rfl
  | i + 1 => by rw [tl8, List.length_cons, tl8_len V i]
theorem tl8_all (n : Nat) : tl8 ((n * 8 % 18446744073709551616 : Nat) : Int) 8 = wbI (hiB n) ++ wbI (loB n) := by
  have v1 : iv (hiB n) = ((n * 8 % 18446744073709551616 / 4294967296 : Nat) : Int) := by unfold hiB iv; rw [BitVec.toNat_ofNat]; omega
  have v2 : iv (loB n) = ((n * 8 % 4294967296 : Nat) : Int) := by unfold loB iv; rw [BitVec.toNat_ofNat]
  obtain ⟨a0, a1, a2, a3⟩ := wb_eq (hiB n)
  obtain ⟨b0, b1, b2, b3⟩ := wb_eq (loB n)
  unfold wbI
  rw [a0, a1, a2, a3, b0, b1, b2, b3, v1, v2]
  simp only [tl8, List.cons_append, List.nil_append, Int.reducePow, List.cons.injEq, and_true, Int.pow_zero]
  refine ⟨?_, ?_, ?_, ?_, ?_, ?_, ?_, ?_⟩ <;> omega
theorem padI_split (n : Nat) : padI n = (128 :: List.replicate (padN n) 0) ++ tl8 ((n * 8 % 18446744073709551616 : Nat) : Int) 8 := by
  rw [tl8_all]; rfl

set_option maxRecDepth 100000 in
set_option maxHeartbeats 4000000 in
theorem rpadding_any (n : Nat) (hn : n < 18446744073709551616) (w : World) : Calls Tryd.prog 108 #[.int .u64 n] w (Tells (.string (padB n)) w.heap.size w) := by
  obtain ⟨i0, hi, hzi0, hzi1, hzi2⟩ := info_parts info_u8
  obtain ⟨z, hz⟩ : ∃ z, padN n = z := ⟨_, rfl⟩
  have hz64 : z < 64 := by rw [← hz]; exact pad_bd n
  have hwh : ∀ k, k < z → (n + (k + 1)) % 64 ≠ 56 := fun k hk => by rw [← hz] at hk; unfold padN at hk; omega
  have hwz : (n + (z + 1)) % 64 = 56 := by rw [← hz]; unfold padN; omega
  obtain ⟨V, hV⟩ : ∃ V : Int, IntKind.u64.wrap ((n : Int) * 8) = V := ⟨_, rfl⟩
  have hVV : V = ((n * 8 % 18446744073709551616 : Nat) : Int) := by rw [← hV, IntKind.wrap_u64]; omega
  have hpad : padB n = strOfNums ((128 :: List.replicate z 0) ++ tl8 V 8) := by rw [hVV, ← hz, ← padI_split]; rfl
  have HPAD := hideIt hpad
  have hv0 : 0 ≤ V := by omega
  have hv1 : V < 18446744073709551616 := by omega
  have HWH := hideIt hwh
  have HWZ := hideIt hwz
  clear hpad hVV hwh hwz
  have B0 := Box.made w 5 (b8s ([128] ++ []))
  have hown0 := own_of_box (base := w.heap.size) (n := 1) (cap := 1) B0 (Nat.le_refl _) rfl rfl (by decide)
  have L0 : Below w.heap.size w (w.alloc (.cells (b8s ([128] ++ [])) 5)) := (Below.refl _ w).alloc (Nat.le_refl _) _
  go_enter Tryd.func108, Tryd.ntmps108
  go_upto_region 2 with fail
  change Code.wp _ _ _ _ (w.alloc (.cells (b8s ([128] ++ [])) 5))
  generalize w.alloc (.cells (b8s ([128] ++ [])) 5) = W at *
  go_loopg [3] z (fun gk v wr => ∃ k : Nat, k ≤ z ∧ gk = z - k ∧ wr.ownsRow w.heap.size 5 1 v (k + 1) (u8s (128 :: List.replicate k 0)) ∧ Below w.heap.size w wr)
  case atStart => exact ⟨0, by omega, rfl, hown0, L0⟩
  case round =>
    clear hown0 L0 B0
    obtain ⟨k, hk, hgk, hown, L⟩ := hrel
    have HG := hideIt hgk
    clear hgk
    have hgs := L.size
    obtain ⟨g, cap, rfl, hgb, hglt, hc, hm, -, -⟩ := own_row hown (by omega)
    obtain ⟨T, hT⟩ : ∃ T, k + 1 = T := ⟨_, rfl⟩
    obtain ⟨R, hR⟩ : ∃ R, (n + T) % 64 = R := ⟨_, rfl⟩
    have t1 : (T : Int) % 18446744073709551616 = (T : Int) := by omega
    have t2 : (IntKind.u64.wrap ((n : Int) + (T : Int))).tmod 64 = (R : Int) := by rw [IntKind.wrap_u64, Int.tmod_eq_emod_of_nonneg (by omega)]; omega
    rw [hT] at hown ⊢
    by_cases hlt : k < z
    · have hne : ¬ ((R : Int) = 56) := by have := HWH.out k hlt; omega
      have e1 : (128 : Int) :: List.replicate (k + 1) 0 = (128 :: List.replicate k 0) ++ [0] := by rw [List.replicate_succ', List.cons_append]
      have HT := hideIt hT
      have hTb : T ≤ 100 := by omega
      clear hT hR
      go_wp2_with (first
        | (at_builtin; refine wp_append_new rfl _ _ 135 rfl w.heap.size 5 i0 (.int .u8 0) 1 Tryd.underlying135 hi hzi0 hzi1 hzi2 rfl _ _ _ rfl hown #[.int .u8 0] rfl (by simp [Value.oneCell']) (by simp; omega) (by omega) hgs ?_))
      intro v1 w1 hown1 hb1 hk1
      have L1 := L.trans (hb1 _ (Nat.le_refl _))
      have hown2 : w1.ownsRow w.heap.size 5 1 v1 (k + 1 + 1) (u8s (128 :: List.replicate (k + 1) 0)) := by
        rw [e1, u8s_app, HT.out]; exact hown1
      clear hb1 hk1 hown1 hown
      go_wp2
      go_roundg (z - (k + 1))
      case measure => have := HG.out; omega
      case rel => exact ⟨k + 1, by omega, rfl, hown2, L1⟩
    · have e : k = z := by omega
      subst e
      have hR56 : R = 56 := by have := HWZ.out; omega
      subst hR56
      have hTb : T ≤ 100 := by omega
      have HT := hideIt hT
      clear HG hT hR
      go_wp2
      go_loopg [4, 5, 6] 8 (fun gk m v i wr2 => ∃ j : Nat, j ≤ 8 ∧ gk = 8 - j ∧ i = .int .i64 j ∧ m = .int .u64 (V / 256 ^ j) ∧ wr2.ownsRow w.heap.size 5 1 v j (u8s (tl8 V j)) ∧
        wr2.ownsRow w.heap.size 5 1 (.slice (some ⟨g, 0, none⟩) T cap) T (u8s (128 :: List.replicate k 0)) ∧ Below w.heap.size w wr2)
      case atStart => exact ⟨0, by omega, rfl, rfl, by simp, World.ownsRow_nil _ _ _ _, hown, L⟩
      case round =>
        clear hown L hgs hglt
        obtain ⟨j, hj, hgk, rfl, rfl, hown, hout, L⟩ := hrel
        have HG := hideIt hgk
        clear hgk
        have hgs := L.size
        by_cases hlt2 : j < 8
        · have hp : (0 : Int) < 256 ^ j := Int.pow_pos (by decide)
          have hq0 : 0 ≤ V / 256 ^ j := Int.ediv_nonneg hv0 (by omega)
          have hq1 : V / 256 ^ j ≤ V := Int.ediv_le_self _ hv0
          have hq2 : V / 256 ^ j / 256 = V / 256 ^ (j + 1) := by rw [Int.ediv_ediv_of_nonneg (by omega), Int.pow_succ]
          have hstep : tl8 V (j + 1) = (V / 256 ^ j % 256) :: tl8 V j := rfl
          obtain ⟨q, hq⟩ : ∃ q, V / 256 ^ j = q := ⟨_, rfl⟩
          rw [hq] at hq0 hq1 hq2 hstep ⊢
          obtain ⟨x, hx⟩ : ∃ x, q % 256 = x := ⟨_, rfl⟩
          rw [hx] at hstep
          have d1 : q.tmod 256 = x := by rw [Int.tmod_eq_emod_of_nonneg hq0]; exact hx
          have d2 : x % 256 = x := by omega
          have d4 : q.tdiv 256 = V / 256 ^ (j + 1) := by rw [Int.tdiv_eq_ediv_of_nonneg hq0]; exact hq2
          obtain ⟨y, hy⟩ : ∃ y, V / 256 ^ (j + 1) = y := ⟨_, rfl⟩
          rw [hy] at d4 hq2
          have hy1 : IntKind.u64.wrap y = y := by rw [IntKind.wrap_u64]; omega
          have HY := hideIt hy
          have HST := hideIt hstep
          have olit : (wr.alloc (.cells #[.int .u8 x] 5)).ownsRow w.heap.size 5 1 (.slice (some ⟨wr.heap.size, 0, none⟩) 1 1) 1 (u8s [x]) :=
            by
            have e : (#[.int .u8 x] : Array Value) = b8s ([x] ++ []) := rfl
            rw [e]
            exact own_of_box (xs := [x]) (ys := []) (Box.made wr 5 (b8s ([x] ++ []))) hgs rfl rfl (by decide)
          have otail := hown.alloc (.cells #[.int .u8 x] 5)
          have oout := hout.alloc (.cells #[.int .u8 x] 5)
          have hgo := (hout.lt g rfl).2
          clear hq hx hy hp hstep hq2
          go_wp2_with (first
            | (at_builtin; refine wpl_append_rows w.heap.size rfl _ _ rfl _ 1 [x] rfl olit _ j (tl8 V j) w.heap.size rfl otail (by omega) (by simp; omega) ?_))
          intro v1 w1 hown1 hg1
          have oout1 := oout.kept hg1 (.inr (by simp [Value.ownBlock]; omega))
          have L1 : Below w.heap.size w w1 := L.trans (((Below.refl w.heap.size wr).alloc hgs _).grown hg1 (by simp; omega) (fun k hk => by simp [Value.ownBlock] at hk; omega))
          have hown2 : w1.ownsRow w.heap.size 5 1 v1 (j + 1) (u8s (tl8 V (j + 1))) := by
            rw [HST.out, show j + 1 = 1 + j by omega]; exact hown1
          clear hown1 hg1 oout otail olit hown hout
          go_wp2
          go_roundg (8 - (j + 1))
          case measure => have := HG.out; omega
          case rel => exact ⟨j + 1, by omega, rfl, by go_num, by rw [HY.out], hown2, oout1, L1⟩
        · have e : j = 8 := by omega
          subst e
          clear HG
          have fin_ : ∀ (v2 : Value) (w2 : World), w2.ownsRow w.heap.size 5 1 v2 (T + 8) (u8s ((128 :: List.replicate k 0) ++ tl8 V 8)) → (convert 135 9 v2).run Tryd.prog w2 = .ok (.string (padB n)) w2 := fun v2 w2 h => by
            have h2 := conv_row h (by omega)
            rw [HPAD.out]
            exact h2
          go_wp2_with (first
            | (at_builtin; refine wpl_append_rows w.heap.size rfl _ _ rfl _ T (128 :: List.replicate k 0) rfl hout _ 8 (tl8 V 8) w.heap.size rfl hown (by omega) hgs ?_))
          intro v1 w1 hown1 hg1
          have hcv := fin_ v1 w1 hown1
          have L1 : Below w.heap.size w w1 := L.grown hg1 hgs (fun k hk => by simp [Value.ownBlock] at hk; omega)
          clear fin_ hown1 hg1 hown hout
          go_wp2
          go_ret
          exact ⟨rfl, L1⟩
end Go.Proofs.YtkecekfapiegjaaDoor
/-
  The document's quick way of a block, walked: it is the plain one.
-/
namespace Go.Proofs.YtkecekfapiegjaaDoor
set_option linter.unusedVariables false
set_option linter.unusedSimpArgs false
set_option maxRecDepth 10000
open Go.RowKit

theorem qstr_index (s : ByteArray) (n : Nat) (h : n < s.size) (w : World) : (Instr.index 9 (.string s) (.int .i64 n)).run Tryd.prog w = .ok (.int .u8 (s[n].toNat : Int)) w := by
  rw [run_index_string w _ _ _ _ Tryd.underlying9, dif_pos ⟨by omega, by omega⟩]
  rfl
/-- Four bytes put together by '|'. -/
theorem or_24 (a b : Nat) (h : b < 16777216) : a * 16777216 ||| b = a * 16777216 + b := by
  have := Nat.two_pow_add_eq_or_of_lt (i := 24) h a
  rw [Nat.mul_comm a]; exact this.symm
theorem or_16 (a b : Nat) (h : b < 65536) : a * 65536 ||| b = a * 65536 + b := by
  have := Nat.two_pow_add_eq_or_of_lt (i := 16) h a
  rw [Nat.mul_comm a]; exact this.symm
theorem or_8 (a b : Nat) (h : b < 256) : a * 256 ||| b = a * 256 + b := by
  have := Nat.two_pow_add_eq_or_of_lt (i := 8) h a
  rw [Nat.mul_comm a]; exact this.symm
set_option maxRecDepth 100000 in
theorem or_be4 (p q r s : UInt8) : bits .or .u32 (bits .or .u32 (bits .or .u32 ((p.toNat : Int) * 16777216) ((q.toNat : Int) * 65536)) ((r.toNat : Int) * 256)) (s.toNat : Int) = iv (be4 p q r s) := by
  have hp := p.toNat_lt; have hq := q.toNat_lt; have hr := r.toNat_lt; have hs := s.toNat_lt
  rw [← be4_eq]
  simp only [beI, List.foldl_cons, List.foldl_nil]
  generalize p.toNat = a at *
  generalize q.toNat = b at *
  generalize r.toNat = c at *
  generalize s.toNat = d at *
  have e1 := u32_or_nat (a * 16777216) (b * 65536) (by omega) (by omega)
  rw [or_24 a (b * 65536) (by omega), show a * 16777216 + b * 65536 = (a * 256 + b) * 65536 by omega] at e1
  have e2 := u32_or_nat ((a * 256 + b) * 65536) (c * 256) (by omega) (by omega)
  rw [or_16 _ (c * 256) (by omega), show (a * 256 + b) * 65536 + c * 256 = ((a * 256 + b) * 256 + c) * 256 by omega] at e2
  have e3 := u32_or_nat (((a * 256 + b) * 256 + c) * 256) d (by omega) (by omega)
  rw [or_8 _ d (by omega)] at e3
  have g1 : ((a * 16777216 : Nat) : Int) = (a : Int) * 16777216 := Int.natCast_mul a 16777216
  have g2 : ((b * 65536 : Nat) : Int) = (b : Int) * 65536 := Int.natCast_mul b 65536
  have g3 : ((c * 256 : Nat) : Int) = (c : Int) * 256 := Int.natCast_mul c 256
  rw [g1, g2] at e1
  rw [g3] at e2
  rw [e1, e2, e3]
  omega

set_option maxRecDepth 100000 in
set_option maxHeartbeats 4000000 in
theorem quick_any (s : St) (b : ByteArray) (hb : b.size = 64) (gt : Nat) (w : World) (hK : Box w gt 140 (arr kB)) :
    Calls Tryd.prog 111 #[.agg #[.int .u32 (iv s.a), .int .u32 (iv s.b), .int .u32 (iv s.c), .int .u32 (iv s.d), .int .u32 (iv s.e), .int .u32 (iv s.f), .int .u32 (iv s.g), .int .u32 (iv s.h)], .string b, .slice (some ⟨gt, 0, none⟩) 64 64] w (Tells (.agg #[.int .u32 (iv (nextS kB (words64 b.data.toList) s).a), .int .u32 (iv (nextS kB (words64 b.data.toList) s).b), .int .u32 (iv (nextS kB (words64 b.data.toList) s).c), .int .u32 (iv (nextS kB (words64 b.data.toList) s).d), .int .u32 (iv (nextS kB (words64 b.data.toList) s).e), .int .u32 (iv (nextS kB (words64 b.data.toList) s).f), .int .u32 (iv (nextS kB (words64 b.data.toList) s).g), .int .u32 (iv (nextS kB (words64 b.data.toList) s).h)]) w.heap.size w) := by
  have H0 : Has w [(w.heap.size + 1 + 1, 178, arr z64), (w.heap.size + 1, 141, St.cs ⟨0, 0, 0, 0, 0, 0, 0, 0⟩), (w.heap.size, 141, s.cs), (gt, 140, arr kB)]
      (((w.alloc (.cells s.cs 141)).alloc (.cells (St.cs ⟨0, 0, 0, 0, 0, 0, 0, 0⟩) 141)).alloc (.cells (arr z64) 178)) :=
    (((((Has.start w).with hK).add 141 s.cs).addAt 141 (St.cs ⟨0, 0, 0, 0, 0, 0, 0, 0⟩) (by simp)).addAt 178 (arr z64) (by simp))
  go_enter Tryd.func111, Tryd.ntmps111
  go_upto_region 2 with fail
  have hbl : b.data.toList.length = 64 := by simpa using hb
  generalize hW : World.alloc (World.alloc (World.alloc _ _) _) _ = W
  have H : Has w [(w.heap.size + 1 + 1, 178, arr z64), (w.heap.size + 1, 141, St.cs ⟨0, 0, 0, 0, 0, 0, 0, 0⟩), (w.heap.size, 141, s.cs), (gt, 140, arr kB)] W := by rw [← hW]; exact H0
  clear H0 hW
  have hgt : gt < w.heap.size := hK.inside
  have HL := hideIt hbl
  obtain ⟨n7, hn7⟩ : ∃ n7, w.heap.size + 1 + 1 = n7 := ⟨_, rfl⟩
  rw [hn7] at H ⊢
  have HN7 := hideIt hn7
  have hn7w : w.heap.size ≤ n7 := by omega
  clear hbl hn7
  go_wp2
  go_loopg [8] 16 (fun gk i wr => ∃ (k : Nat) (l : List B32), k ≤ 16 ∧ gk = 16 - k ∧ i = .int .i64 k ∧ l.length = 64 ∧ l.take k = (own16 b.data.toList).take k ∧ Has w [(n7, 178, arr l), (w.heap.size + 1, 141, St.cs ⟨0, 0, 0, 0, 0, 0, 0, 0⟩), (w.heap.size, 141, s.cs), (gt, 140, arr kB)] wr)
  case atStart => exact ⟨0, z64, by omega, rfl, rfl, z64_len, rfl, H⟩
  case round =>
    clear H
    obtain ⟨k, l, hk, hgk, rfl, hll, hlt0, H⟩ := hrel
    have HG := hideIt hgk
    clear hgk
    by_cases hlt : k < 16
    · have hw := be_take b.data.toList (4 * k) (by rw [HL.out]; omega)
      have hs16 := own16_step b.data.toList k hlt
      obtain ⟨N0, hN0⟩ : ∃ N, 4 * k = N := ⟨_, rfl⟩
      obtain ⟨N1, hN1⟩ : ∃ N, 4 * k + 1 = N := ⟨_, rfl⟩
      obtain ⟨N2, hN2⟩ : ∃ N, 4 * k + 2 = N := ⟨_, rfl⟩
      obtain ⟨N3, hN3⟩ : ∃ N, 4 * k + 3 = N := ⟨_, rfl⟩
      have l0 : N0 < b.size := by omega
      have l1 : N1 < b.size := by omega
      have l2 : N2 < b.size := by omega
      have l3 : N3 < b.size := by omega
      have g : ∀ N (h : N < b.size), b.data.toList.getD N 0 = b[N] := fun N h => by
        rw [List.getD_eq_getElem?_getD, List.getElem?_eq_getElem (by rw [HL.out]; omega)]; rfl
      rw [hN1, hN2, hN3, hN0, g N0 l0, g N1 l1, g N2 l2, g N3 l3] at hs16
      have j0 := fun u => qstr_index b N0 l0 u
      have j1 := fun u => qstr_index b N1 l1 u
      have j2 := fun u => qstr_index b N2 l2 u
      have j3 := fun u => qstr_index b N3 l3 u
      have hor := or_be4 b[N0] b[N1] b[N2] b[N3]
      generalize be4 b[N0] b[N1] b[N2] b[N3] = x at *
      generalize hc0 : b[N0] = c0 at *
      generalize hc1 : b[N1] = c1 at *
      generalize hc2 : b[N2] = c2 at *
      generalize hc3 : b[N3] = c3 at *
      have x0 : IntKind.i64.wrap (4 * (k : Int)) = (N0 : Int) := by rw [IntWalk.i64_in _ (by omega)]; omega
      have x00 : 4 * (k : Int) = (N0 : Int) := by omega
      have x01 : IntKind.i64.wrap (N0 : Int) = (N0 : Int) := IntWalk.i64_in _ (by omega)
      have x1 : IntKind.i64.wrap ((N0 : Int) + 1) = (N1 : Int) := by rw [IntWalk.i64_in _ (by omega)]; omega
      have x2 : IntKind.i64.wrap ((N0 : Int) + 2) = (N2 : Int) := by rw [IntWalk.i64_in _ (by omega)]; omega
      have x3 : IntKind.i64.wrap ((N0 : Int) + 3) = (N3 : Int) := by rw [IntWalk.i64_in _ (by omega)]; omega
      have b0 := c0.toNat_lt
      have b1 := c1.toNat_lt
      have b2 := c2.toNat_lt
      have b3 := c3.toNat_lt
      have y0 : IntKind.u32.wrap (c0.toNat : Int) = (c0.toNat : Int) := by rw [IntKind.wrap_u32']; omega
      have z0 : IntKind.u32.wrap ((c0.toNat : Int) * 16777216) = (c0.toNat : Int) * 16777216 := by rw [IntKind.wrap_u32']; omega
      have y1 : IntKind.u32.wrap (c1.toNat : Int) = (c1.toNat : Int) := by rw [IntKind.wrap_u32']; omega
      have z1 : IntKind.u32.wrap ((c1.toNat : Int) * 65536) = (c1.toNat : Int) * 65536 := by rw [IntKind.wrap_u32']; omega
      have y2 : IntKind.u32.wrap (c2.toNat : Int) = (c2.toNat : Int) := by rw [IntKind.wrap_u32']; omega
      have z2 : IntKind.u32.wrap ((c2.toNat : Int) * 256) = (c2.toNat : Int) * 256 := by rw [IntKind.wrap_u32']; omega
      have y3 : IntKind.u32.wrap (c3.toNat : Int) = (c3.toNat : Int) := by rw [IntKind.wrap_u32']; omega
      have hb0 := H.box 0
      have r0 := hb0.read k
      rw [arr_at l k (by omega)] at r0
      have f0 := hb0.free k
      have hin := hb0.inside
      have k16 : (k : Int) < 64 := by omega
      have HS16 := hideIt hs16
      have HT0 := hideIt hlt0
      have HLL := hideIt hll
      generalize l.getD k 0 = x9 at *
      clear hw hs16 hlt0 hll hb0 hN0 hN1 hN2 hN3 g l0 l1 l2 l3 hc0 hc1 hc2 hc3 b0 b1 b2 b3
      go_wp2
      refine wp_region_still_tail 31 (by kernel_rfl) (by kernel_rfl) ?_
      simp only [List.take_succ_cons, List.take_zero, List.drop_succ_cons, List.drop_zero]
      iterate 31 (refine wpStill_step (fun K hK => ?_); go_simp; refine hK _ ?_; clear hK K)
      refine wpStill_nil ?_
      change wpList _ _ _ _ _ wr.drew
      have H2 := H.drew
      have H3 := H2.wrote (by omega) (by have := HN7.out; simp; omega) k (.int .u32 (iv x))
      rw [arr_set] at H3
      have r1 : wr.drew.cell? ⟨n7, k, none⟩ = some (.int .u32 (iv x9)) := r0
      have f1 : wr.drew.frozen? ⟨n7, k, none⟩ = false := f0
      have hin1 : n7 < wr.drew.heap.size := hin
      clear H H2 r0 f0 hin hor
      generalize wr.drew = w8 at *
      go_wp2
      go_roundg (16 - (k + 1))
      case measure => have := HG.out; omega
      case rel => exact ⟨k + 1, l.set k x, by omega, rfl, by go_num, by rw [List.length_set]; exact HLL.out, by rw [take_set _ _ _ (by rw [HLL.out]; omega), HT0.out, HS16.out], H3⟩
    · have e : k = 16 := by omega
      subst e
      rw [List.take_of_length_le (Nat.le_of_eq (own16_len _))] at hlt0
      have hw0 : words64 b.data.toList = grow 48 (own16 b.data.toList) := rfl
      have ho : (own16 b.data.toList).length = 16 := own16_len _
      have HO := hideIt ho
      have HW0 := hideIt hw0
      clear hw0 HG
      generalize own16 b.data.toList = o at *
      go_wp2
      go_loopg [9] 48 (fun gk i wr => ∃ (k : Nat) (l : List B32), 16 ≤ k ∧ k ≤ 64 ∧ gk = 64 - k ∧ i = .int .i64 k ∧ l.length = 64 ∧ l.take k = grow (k - 16) o ∧ Has w [(n7, 178, arr l), (w.heap.size + 1, 141, St.cs ⟨0, 0, 0, 0, 0, 0, 0, 0⟩), (w.heap.size, 141, s.cs), (gt, 140, arr kB)] wr)
      case atStart => exact ⟨16, l, by omega, by omega, by omega, rfl, hll, hlt0, H⟩
      case round =>
        clear hll hlt0 H ho
        obtain ⟨k, l, hk0, hk, hgk, rfl, hll, hlt0, H⟩ := hrel
        have HG := hideIt hgk
        clear hgk
        by_cases hlt : k < 64
        · have hlen : (grow (k - 16) o).length = k := by rw [grow_len, HO.out]; omega
          have hst : grow (k + 1 - 16) o = grow (k - 16) o ++ [nextW (grow (k - 16) o)] := by rw [show k + 1 - 16 = (k - 16) + 1 by omega, grow_snoc]
          have hn : nextW (grow (k - 16) o) = l.getD (k - 16) 0 + sig0 (l.getD (k - 15) 0) + l.getD (k - 7) 0 + sig1 (l.getD (k - 2) 0) := by
            unfold nextW
            rw [hlen, take_getD l _ k (k - 16) hlt0 (by omega), take_getD l _ k (k - 15) hlt0 (by omega), take_getD l _ k (k - 7) hlt0 (by omega), take_getD l _ k (k - 2) hlt0 (by omega)]
          have HS := hideIt hst
          have HNX := hideIt hn
          have hbx := H.box 0
          have r1 := hbx.read (k - 16)
          rw [arr_at l (k - 16) (by omega)] at r1
          have r2 := hbx.read (k - 15)
          rw [arr_at l (k - 15) (by omega)] at r2
          have r3 := hbx.read (k - 7)
          rw [arr_at l (k - 7) (by omega)] at r3
          have r4 := hbx.read (k - 2)
          rw [arr_at l (k - 2) (by omega)] at r4
          have r5 := hbx.read k
          rw [arr_at l k (by omega)] at r5
          have f5 := hbx.free k
          have hin := hbx.inside
          have HT0 := hideIt hlt0
          have HLL := hideIt hll
          generalize l.getD (k - 16) 0 = x1 at *
          generalize l.getD (k - 15) 0 = x2 at *
          generalize l.getD (k - 7) 0 = x3 at *
          generalize l.getD (k - 2) 0 = x4 at *
          generalize l.getD k 0 = x9 at *
          have C1 := hideIt (fun u : World => (right_lit x2 7 7 rfl (by decide) (by decide) u).mono fun e w'' h => (⟨h.1, h.2.symm⟩ : _ ∧ w'' = u))
          have C2 := hideIt (fun u : World => (right_lit x2 18 18 rfl (by decide) (by decide) u).mono fun e w'' h => (⟨h.1, h.2.symm⟩ : _ ∧ w'' = u))
          have C3 := hideIt (fun u : World => (right_lit x4 17 17 rfl (by decide) (by decide) u).mono fun e w'' h => (⟨h.1, h.2.symm⟩ : _ ∧ w'' = u))
          have C4 := hideIt (fun u : World => (right_lit x4 19 19 rfl (by decide) (by decide) u).mono fun e w'' h => (⟨h.1, h.2.symm⟩ : _ ∧ w'' = u))
          obtain ⟨K, hK'⟩ : ∃ K : Int, (k : Int) = K := ⟨_, rfl⟩
          have K0 : 0 ≤ K := by omega
          have K1 : K < 64 := by omega
          have K2 : K.toNat = k := by omega
          rw [hK']
          obtain ⟨i1, f1⟩ : ∃ i, K - 16 = i := ⟨_, rfl⟩
          obtain ⟨j1, g1⟩ : ∃ j, k - 16 = j := ⟨_, rfl⟩
          have w1 : IntKind.i64.wrap (K - 16) = i1 := by rw [f1]; exact IntWalk.i64_in _ (by omega)
          have s1 : 0 ≤ i1 := by omega
          have t1 : i1 < 64 := by omega
          have n1 : i1.toNat = j1 := by omega
          rw [g1] at r1
          obtain ⟨i2, f2⟩ : ∃ i, K - 15 = i := ⟨_, rfl⟩
          obtain ⟨j2, g2⟩ : ∃ j, k - 15 = j := ⟨_, rfl⟩
          have w2 : IntKind.i64.wrap (K - 15) = i2 := by rw [f2]; exact IntWalk.i64_in _ (by omega)
          have s2 : 0 ≤ i2 := by omega
          have t2 : i2 < 64 := by omega
          have n2 : i2.toNat = j2 := by omega
          rw [g2] at r2
          obtain ⟨i3, f3⟩ : ∃ i, K - 7 = i := ⟨_, rfl⟩
          obtain ⟨j3, g3⟩ : ∃ j, k - 7 = j := ⟨_, rfl⟩
          have w3 : IntKind.i64.wrap (K - 7) = i3 := by rw [f3]; exact IntWalk.i64_in _ (by omega)
          have s3 : 0 ≤ i3 := by omega
          have t3 : i3 < 64 := by omega
          have n3 : i3.toNat = j3 := by omega
          rw [g3] at r3
          obtain ⟨i4, f4⟩ : ∃ i, K - 2 = i := ⟨_, rfl⟩
          obtain ⟨j4, g4⟩ : ∃ j, k - 2 = j := ⟨_, rfl⟩
          have w4 : IntKind.i64.wrap (K - 2) = i4 := by rw [f4]; exact IntWalk.i64_in _ (by omega)
          have s4 : 0 ≤ i4 := by omega
          have t4 : i4 < 64 := by omega
          have n4 : i4.toNat = j4 := by omega
          rw [g4] at r4
          have HK0 := hideIt hk0
          have HKK := hideIt hK'
          clear hk0 hK' g1 g2 g3 g4 f1 f2 f3 f4 hlen hst hn hlt0 hll hbx
          go_upto_region 9 with fail
          go_quiet (fail)
          have H2 := H.drewN nq
          have r1' : (wr.drewN nq).cell? ⟨n7, j1, none⟩ = some (.int .u32 (iv x1)) := r1
          have r3' : (wr.drewN nq).cell? ⟨n7, j3, none⟩ = some (.int .u32 (iv x3)) := r3
          have r5' : (wr.drewN nq).cell? ⟨n7, k, none⟩ = some (.int .u32 (iv x9)) := r5
          have f5' : (wr.drewN nq).frozen? ⟨n7, k, none⟩ = false := f5
          have hin' : n7 < (wr.drewN nq).heap.size := hin
          clear r1 r2 r3 r4 r5 f5 hin H
          generalize World.drewN _ _ = W2 at *
          go_upto_region 10 with fail
          refine wp_region_still_tail 29 (by kernel_rfl) (by kernel_rfl) ?_
          simp only [List.take_succ_cons, List.take_zero, List.drop_succ_cons, List.drop_zero]
          iterate 6 (refine wpStill_step (fun K hK => ?_); go_simp; refine hK _ ?_; clear hK K)
          (refine wpStill_step (fun K hK => ?_); go_simp; refine ⟨_, C1.out _, hK _ ?_⟩; clear hK K)
          (refine wpStill_step (fun K hK => ?_); go_simp; refine hK _ ?_; clear hK K)
          (refine wpStill_step (fun K hK => ?_); go_simp; refine ⟨_, C2.out _, hK _ ?_⟩; clear hK K)
          iterate 11 (refine wpStill_step (fun K hK => ?_); go_simp; refine hK _ ?_; clear hK K)
          (refine wpStill_step (fun K hK => ?_); go_simp; refine ⟨_, C3.out _, hK _ ?_⟩; clear hK K)
          (refine wpStill_step (fun K hK => ?_); go_simp; refine hK _ ?_; clear hK K)
          (refine wpStill_step (fun K hK => ?_); go_simp; refine ⟨_, C4.out _, hK _ ?_⟩; clear hK K)
          iterate 6 (refine wpStill_step (fun K hK => ?_); go_simp; refine hK _ ?_; clear hK K)
          refine wpStill_nil ?_
          change wpList _ _ _ _ _ W2.drew
          have e1 : bits .xor .u32 (bits .xor .u32 (iv (rot x2 7)) (iv (rot x2 18))) (iv x2 / (8 : Int)) = iv (sig0 x2) := by rw [shr3, iv_xor, iv_xor]; rfl
          have e2 : bits .xor .u32 (bits .xor .u32 (iv (rot x4 17)) (iv (rot x4 19))) (iv x4 / (1024 : Int)) = iv (sig1 x4) := by rw [shr10, iv_xor, iv_xor]; rfl
          simp only [e1, e2, iv_add, iv_addm]
          have H3 := H2.drew
          have H4 := H3.wrote (by omega) (by have := HN7.out; simp; omega) k (.int .u32 (iv (x1 + sig0 x2 + x3 + sig1 x4)))
          rw [arr_set, ← HNX.out] at H4
          have r5 : W2.drew.cell? ⟨n7, k, none⟩ = some (.int .u32 (iv x9)) := r5'
          have f5 : W2.drew.frozen? ⟨n7, k, none⟩ = false := f5'
          have hin : n7 < W2.drew.heap.size := hin'
          rw [HNX.out] at H4
          clear H2 H3 r5' f5' hin' r1' r3' e1 e2 w1 w2 w3 w4 s1 s2 s3 s4 t1 t2 t3 t4 n1 n2 n3 n4 C1 C2 C3 C4
          generalize W2.drew = w8 at *
          rw [← HKK.out] at K0 K1 ⊢
          clear K2
          go_wp2
          go_roundg (64 - (k + 1))
          case measure => have := HG.out; omega
          case rel => exact ⟨k + 1, l.set k (x1 + sig0 x2 + x3 + sig1 x4), by have := HK0.out; omega, by omega, rfl, by go_num, by rw [List.length_set]; exact HLL.out, by rw [take_set _ _ _ (by rw [HLL.out]; omega), HT0.out, HS.out, HNX.out], H4⟩
        · have e : k = 64 := by omega
          subst e
          clear HG
          rw [List.take_of_length_le (Nat.le_of_eq hll)] at hlt0
          have hl64 : l = words64 b.data.toList := by rw [HW0.out]; exact hlt0
          have HL64 := hideIt hl64
          clear hl64 hlt0
          obtain ⟨r0, r1, r2, r3, r4, r5, r6, r7⟩ := (H.box 2).st
          have hin0 := (H.box 0).inside
          have H2 := H.add 141 s.cs
          obtain ⟨n3, hn3⟩ : ∃ n3, wr.heap.size = n3 := ⟨_, rfl⟩
          rw [hn3] at H2
          go_upto_region 12 with fail
          change Code.wp _ _ _ _ (wr.alloc (.cells s.cs 141))
          rw [hn3] at hin0
          clear H r0 r1 r2 r3 r4 r5 r6 r7 hn3
          generalize wr.alloc (.cells s.cs 141) = W5 at *
          go_wp2
          go_loopg [13] 64 (fun gk i wr => ∃ k : Nat, k ≤ 64 ∧ gk = 64 - k ∧ i = .int .i64 k ∧ Has w [(n3, 141, (rN kB l s k).cs), (n7, 178, arr l), (w.heap.size + 1, 141, St.cs ⟨0, 0, 0, 0, 0, 0, 0, 0⟩), (w.heap.size, 141, s.cs), (gt, 140, arr kB)] wr)
          case atStart => exact ⟨0, by omega, rfl, rfl, H2⟩
          case round =>
            clear H2
            obtain ⟨k, hk, hgk, rfl, H⟩ := hrel
            have HG := hideIt hgk
            clear hgk
            by_cases hlt : k < 64
            · have HS := hideIt (rN_succ kB l s k)
              have rw_ := (H.box 1).read k
              rw [arr_at l k (by omega)] at rw_
              have rk_ := (H.box 4).read k
              rw [arr_at kB k (by rw [show kB.length = 64 from rfl]; omega)] at rk_
              obtain ⟨r0, r1, r2, r3, r4, r5, r6, r7⟩ := (H.box 0).st
              have hin := (H.box 0).inside
              have hin1 := (H.box 1).inside
              have hin4 := (H.box 4).inside
              have C1 := hideIt (fun u : World => (right_lit (rN kB l s k).e 6 6 rfl (by decide) (by decide) u).mono fun e w'' h => (⟨h.1, h.2.symm⟩ : _ ∧ w'' = u))
              have C2 := hideIt (fun u : World => (right_lit (rN kB l s k).e 11 11 rfl (by decide) (by decide) u).mono fun e w'' h => (⟨h.1, h.2.symm⟩ : _ ∧ w'' = u))
              have C3 := hideIt (fun u : World => (right_lit (rN kB l s k).e 25 25 rfl (by decide) (by decide) u).mono fun e w'' h => (⟨h.1, h.2.symm⟩ : _ ∧ w'' = u))
              have c4 := fun u => right_lit (rN kB l s k).a 2 2 rfl (by decide) (by decide) u
              have c5 := fun u => right_lit (rN kB l s k).a 13 13 rfl (by decide) (by decide) u
              have c6 := fun u => right_lit (rN kB l s k).a 22 22 rfl (by decide) (by decide) u
              generalize l.getD k 0 = x at *
              generalize kB.getD k 0 = kc at *
              generalize rN kB l s k = sk at *
              have b1 : (k : Int) < 64 := by omega
              have HC4 := hideIt c4
              have HC5 := hideIt c5
              have HC6 := hideIt c6
              clear c4 c5 c6
              go_upto_region 15 with fail
              go_quiet (fail)
              have q4 : (wr.drewN nq).cell? ⟨n3, 4, none⟩ = some (.int .u32 (iv sk.e)) := r4
              have q5 : (wr.drewN nq).cell? ⟨n3, 5, none⟩ = some (.int .u32 (iv sk.f)) := r5
              have q6 : (wr.drewN nq).cell? ⟨n3, 6, none⟩ = some (.int .u32 (iv sk.g)) := r6
              have q7 : (wr.drewN nq).cell? ⟨n3, 7, none⟩ = some (.int .u32 (iv sk.h)) := r7
              have qx : (wr.drewN nq).cell? ⟨n7, k, none⟩ = some (.int .u32 (iv x)) := rw_
              have qk : (wr.drewN nq).cell? ⟨gt, k, none⟩ = some (.int .u32 (iv kc)) := rk_
              have i3 : n3 < (wr.drewN nq).heap.size := hin
              have i7 : n7 < (wr.drewN nq).heap.size := hin1
              have ig : gt < (wr.drewN nq).heap.size := hin4
              have H2 := H.drewN nq
              clear H r0 r1 r2 r3 r4 r5 r6 r7 rw_ rk_ hin hin1 hin4
              generalize World.drewN _ _ = W2 at *
              go_upto_region 16 with fail
              go_quiet (fail)
              have p7 : (W2.drewN nq).cell? ⟨n3, 7, none⟩ = some (.int .u32 (iv sk.h)) := q7
              have px : (W2.drewN nq).cell? ⟨n7, k, none⟩ = some (.int .u32 (iv x)) := qx
              have pk : (W2.drewN nq).cell? ⟨gt, k, none⟩ = some (.int .u32 (iv kc)) := qk
              have j3 : n3 < (W2.drewN nq).heap.size := i3
              have j7 : n7 < (W2.drewN nq).heap.size := i7
              have jg : gt < (W2.drewN nq).heap.size := ig
              have H3 := H2.drewN nq
              clear H2 q4 q5 q6 q7 qx qk i3 i7 ig
              generalize World.drewN _ _ = W3 at *
              go_upto_region 17 with fail
              refine wp_region_still_tail 29 (by kernel_rfl) (by kernel_rfl) ?_
              simp only [List.take_succ_cons, List.take_zero, List.drop_succ_cons, List.drop_zero]
              iterate 3 (refine wpStill_step (fun K hK => ?_); go_simp; refine hK _ ?_; clear hK K)
              (refine wpStill_step (fun K hK => ?_); go_simp; refine ⟨_, C1.out _, hK _ ?_⟩; clear hK K)
              (refine wpStill_step (fun K hK => ?_); go_simp; refine hK _ ?_; clear hK K)
              (refine wpStill_step (fun K hK => ?_); go_simp; refine ⟨_, C2.out _, hK _ ?_⟩; clear hK K)
              iterate 2 (refine wpStill_step (fun K hK => ?_); go_simp; refine hK _ ?_; clear hK K)
              (refine wpStill_step (fun K hK => ?_); go_simp; refine ⟨_, C3.out _, hK _ ?_⟩; clear hK K)
              iterate 20 (refine wpStill_step (fun K hK => ?_); go_simp; refine hK _ ?_; clear hK K)
              refine wpStill_nil ?_
              change wpList _ _ _ _ _ W3.drew
              have hnot : ∀ y : B32, IntKind.u32.wrap (4294967295 - iv y) = iv (~~~y) := fun y => by rw [iv_not, wrap_iv]
              have hnot2 : ∀ y : B32, (4294967295 - iv y) % 4294967296 = iv (~~~y) := fun y => by rw [iv_not, iv_mod]
              simp only [hnot, hnot2, iv_xor, iv_and, iv_add, iv_addm]
              clear hnot hnot2 C1 C2 C3
              rw [ch_xor]
              obtain ⟨T, hT⟩ : ∃ T, sk.h + (rot sk.e 6 ^^^ rot sk.e 11 ^^^ rot sk.e 25) + chB sk.e sk.f sk.g + kc + x = T := ⟨_, rfl⟩
              rw [hT]
              have H4 := H3.drew
              clear H3 p7 px pk j3 j7 jg
              generalize World.drew W3 = W4 at *
              go_upto_region 18 with fail
              have c4 := HC4.out
              have c5 := HC5.out
              have c6 := HC6.out
              go_upto_region 19 with (first
                | (go_at_call_of 122 (Value.int .u64 2); refine (c4 _).mono ?_; rintro e w' ⟨rfl, rfl⟩)
                | (go_at_call_of 122 (Value.int .u64 13); refine (c5 _).mono ?_; rintro e w' ⟨rfl, rfl⟩)
                | (go_at_call_of 122 (Value.int .u64 22); refine (c6 _).mono ?_; rintro e w' ⟨rfl, rfl⟩))
              clear c4 c5 c6 HC4 HC5 HC6
              simp only [iv_xor, iv_and, iv_add, iv_addm]
              rw [maj_xor]
              obtain ⟨U, hU⟩ : ∃ U, (rot sk.a 2 ^^^ rot sk.a 13 ^^^ rot sk.a 22) + majB sk.a sk.b sk.c = U := ⟨_, rfl⟩
              rw [hU]
              have hnew : turned sk kc x = ⟨T + U, sk.a, sk.b, sk.c, sk.d + T, sk.e, sk.f, sk.g⟩ := by
                have e0 : sk.h + (sum1 sk.e + chB sk.e sk.f sk.g) + kc + x = T := by rw [← hT]; unfold sum1; grind
                have e1 : sum0 sk.a + majB sk.a sk.b sk.c = U := by rw [← hU]; rfl
                simp only [turned, e0, e1]
              have HNEW := hideIt hnew
              clear hnew hT hU
              obtain ⟨z0, z1, z2, z3, z4, z5, z6, z7, z8⟩ := (H4.box 0).eight
              obtain ⟨y0, y1, y2, y3, y4, y5, y6, y7⟩ := (H4.box 0).st
              have e1 := iv_addm
              have e2 := iv_add
              go_wp2
              have H5 := H4.st8 (by omega) (by have := HN7.out; simp; omega) ⟨T + U, sk.a, sk.b, sk.c, sk.d + T, sk.e, sk.f, sk.g⟩
              rw [← HNEW.out, ← HS.out] at H5
              clear e1 e2 z0 z1 z2 z3 z4 z5 z6 z7 z8 y0 y1 y2 y3 y4 y5 y6 y7 H4
              go_roundg (64 - (k + 1))
              case measure => have := HG.out; omega
              case rel => exact ⟨k + 1, by omega, rfl, by go_num, by rw [HS.out, HNEW.out] at H5 ⊢; exact H5⟩
            · have e : k = 64 := by omega
              subst e
              clear HG
              have hA : nextS kB l s = (rN kB l s 64).plus s := rfl
              generalize rN kB l s 64 = A at *
              have HA := hideIt hA
              clear hA
              go_wp2
              go_loopg [22] 8 (fun gk i wr => ∃ i' : Nat, i' ≤ 8 ∧ gk = 8 - i' ∧ i = .int .i64 i' ∧ Has w [(n3, 141, (plusN A s i').cs), (n7, 178, arr l), (w.heap.size + 1, 141, St.cs ⟨0, 0, 0, 0, 0, 0, 0, 0⟩), (w.heap.size, 141, s.cs), (gt, 140, arr kB)] wr)
              case atStart => exact ⟨0, by omega, rfl, rfl, H⟩
              case round =>
                clear H
                obtain ⟨i, hi, hgi, rfl, H⟩ := hrel
                have HI := hideIt hgi
                clear hgi
                by_cases hlt : i < 8
                · have r1 := (H.box 0).read i
                  rw [St.cs_at _ _ hlt, plusN_at _ _ _ hlt] at r1
                  have r2 := (H.box 3).read i
                  rw [St.cs_at _ _ hlt] at r2
                  have hf := (H.box 0).free i
                  have hin := (H.box 0).inside
                  have HP := hideIt (plusN_succ A s i)
                  have hput := St.cs_put (plusN A s i) i (A.at i + s.at i) hlt
                  generalize A.at i = x at *
                  generalize s.at i = y at *
                  have b1 : (i : Int) < 8 := by omega
                  go_wp2
                  refine wp_region_still_tail 9 (by kernel_rfl) (by kernel_rfl) ?_
                  simp only [List.take_succ_cons, List.take_zero, List.drop_succ_cons, List.drop_zero]
                  iterate 9 (refine wpStill_step (fun K hK => ?_); go_simp; refine hK _ ?_; clear hK K)
                  refine wpStill_nil ?_
                  change wpList _ _ _ _ _ wr.drew
                  simp only [iv_add]
                  have H2 := H.drew
                  have r3 : wr.drew.cell? ⟨n3, i, none⟩ = some (.int .u32 (iv x)) := r1
                  have hf2 : wr.drew.frozen? ⟨n3, i, none⟩ = false := hf
                  have hin2 : n3 < wr.drew.heap.size := hin
                  have H3 := H2.wrote (by omega) (by have := HN7.out; simp; omega) i (.int .u32 (iv (x + y)))
                  rw [hput, ← HP.out] at H3
                  clear H H2 r1 r2 hf hput hin
                  generalize wr.drew = w8 at *
                  go_wp2
                  go_roundg (8 - (i + 1))
                  case measure => have := HI.out; omega
                  case rel => exact ⟨i + 1, by omega, rfl, by go_num, H3⟩
                · have e : i = 8 := by omega
                  subst e
                  clear HI
                  rw [plusN_all] at H
                  have hA := HA.out
                  clear HA
                  generalize A.plus s = F at *
                  have HA := hideIt hA
                  clear hA
                  obtain ⟨r0, r1, r2, r3, r4, r5, r6, r7⟩ := (H.box 0).st
                  obtain ⟨z0, z1, z2, z3, z4, z5, z6, z7, z8⟩ := (H.box 2).eight
                  obtain ⟨y0, y1, y2, y3, y4, y5, y6, y7⟩ := (H.box 2).st
                  have hin := (H.box 0).inside
                  go_wp2
                  generalize hX : World.setCell (World.setCell _ _ _) _ _ = X
                  have hbx : Box X (w.heap.size + 1) 141 F.cs := by rw [← hX]; exact Box.wrote8 (H.box 2) F
                  have hbl : Below w.heap.size w X := by rw [← hX]; exact below_set8 H.below (by omega) F
                  clear hX y0 y1 y2 y3 y4 y5 y6 y7 z0 z1 z2 z3 z4 z5 z6 z7 z8 r0 r1 r2 r3 r4 r5 r6 r7 hin
                  obtain ⟨x0, x1, x2, x3, x4, x5, x6, x7⟩ := hbx.st
                  have hgx := hbx.inside
                  exact bodyPost_ret (v := .agg #[.int .u32 (iv F.a), .int .u32 (iv F.b), .int .u32 (iv F.c), .int .u32 (iv F.d), .int .u32 (iv F.e), .int .u32 (iv F.f), .int .u32 (iv F.g), .int .u32 (iv F.h)]) (by simp [results, Tryd.results111, go_sem, x0, x1, x2, x3, x4, x5, x6, x7]) rfl ⟨by rw [← HL64.out, HA.out], hbl⟩
end Go.Proofs.YtkecekfapiegjaaDoor
/-
  The document's Sum, walked: the digest of any text.
-/
namespace Go.Proofs.YtkecekfapiegjaaDoor
set_option linter.unusedVariables false
set_option linter.unusedSimpArgs false
set_option maxRecDepth 10000
open Go.RowKit

set_option maxRecDepth 100000 in
set_option maxHeartbeats 4000000 in
theorem rsum_any (s : ByteArray) (hs : s.size ≤ 1000000000) (w : World) : Calls Tryd.prog 87 #[.string s] w (Tells (.string (digB s.data.toList)) w.heap.size w) := by
  obtain ⟨i0, hi, hzi0, hzi1, hzi2⟩ := info_parts info_u8
  have cP := fun u => rpadding_any s.size (by omega) u
  have cT := fun u => table_any u
  have cS := fun u => start_any u
  have hps := padB_size s.size
  have hpz := pad_bd s.size
  have hpw := pad_whole s.size
  obtain ⟨ALL, hALL⟩ : ∃ ALL, s ++ padB s.size = ALL := ⟨_, rfl⟩
  have hAs : ALL.size = s.size + (padN s.size + 9) := by rw [← hALL, ByteArray.size_append, hps]
  have hcat : ∀ u : World, (Op.stringOp .add s (padB s.size)).run Tryd.prog u = .ok (.string ALL) u := fun u => by rw [← hALL]; exact run_string_add_sum u _ _ (by omega)
  obtain ⟨M, hM⟩ : ∃ M, ALL.size = 64 * M := ⟨ALL.size / 64, by omega⟩
  have hMs : M ≤ 100000000 := by omega
  have hD : digB s.data.toList = strOfNums (stI (runJ ALL st0 M)) := by
    rw [runJ_all ALL M hM, ← hALL, ByteArray.data_append, Array.toList_append]
    unfold digB pad
    rw [show s.data.toList.length = s.size by simp]
  have e1 : (s.size : Int) % 18446744073709551616 = (s.size : Int) := by omega
  have HM := hideIt hM
  generalize padB s.size = PB at *
  generalize digB s.data.toList = D at *
  have HD := hideIt hD
  clear hD hps hALL hAs hpw hM
  go_enter Tryd.func87, Tryd.ntmps87
  go_upto_region 3 with (first
    | (go_at_call 108; refine (cP _).mono ?_; rintro e w1 ⟨rfl, b1⟩)
    | (go_at_call 109; refine (cT _).mono ?_; rintro e w2 ⟨rfl, k2, b2⟩))
  have H2 := ((Has.start w).call (chain b1 b2)).with k2
  have hg2 : w.heap.size ≤ w1.heap.size := b1.size
  clear cP cT hcat b1 b2 k2 e1
  go_upto_region 4 with (first
    | (go_at_call 110; refine (cS _).mono ?_; rintro e w3 ⟨rfl, b3⟩))
  have H4 := (H2.call b3).add 141 st0.cs
  have hn4 : w1.heap.size < w3.heap.size := ((H2.call b3).box 0).inside
  clear cS b3
  change Code.wp _ _ _ _ (w3.alloc (.cells st0.cs 141))
  generalize w3.heap.size = n4 at *
  generalize w3.alloc (.cells st0.cs 141) = W4 at *
  generalize w1.heap.size = gt at *
  go_wp2
  go_loopg [6] M (fun gk i wr => ∃ j : Nat, j ≤ M ∧ gk = M - j ∧ i = .int .i64 ((64 * j : Nat) : Int) ∧ Has w [(n4, 141, (runJ ALL st0 j).cs), (gt, 140, arr kB)] wr)
  case atStart => exact ⟨0, by omega, rfl, rfl, H4⟩
  case round =>
    clear H4
    obtain ⟨j, hj, hgk, rfl, H⟩ := hrel
    have HG := hideIt hgk
    clear hgk
    obtain ⟨N, hN⟩ : ∃ N, 64 * j = N := ⟨_, rfl⟩
    have hMs := HM.out
    by_cases hlt : j < M
    · obtain ⟨N2, hN2⟩ : ∃ N2, N + 64 = N2 := ⟨_, rfl⟩
      have hbs := blkA_size ALL j (by omega)
      have hbd : blkA ALL j = ALL.extract N N2 := by unfold blkA; rw [hN, hN2]
      have hsucc := runJ_succ ALL st0 j
      obtain ⟨A, hA⟩ : ∃ A, runJ ALL st0 j = A := ⟨_, rfl⟩
      obtain ⟨F, hF⟩ : ∃ F, runJ ALL st0 (j + 1) = F := ⟨_, rfl⟩
      rw [hA, hF, hbd] at hsucc
      rw [hbd] at hbs
      rw [hA] at H
      obtain ⟨X, hX⟩ : ∃ X, ALL.extract N N2 = X := ⟨_, rfl⟩
      rw [hX] at hbs hsucc
      have cQ : ∀ u, Box u gt 140 (arr kB) → Calls Tryd.prog 111 #[.agg #[.int .u32 (iv A.a), .int .u32 (iv A.b), .int .u32 (iv A.c), .int .u32 (iv A.d), .int .u32 (iv A.e), .int .u32 (iv A.f), .int .u32 (iv A.g), .int .u32 (iv A.h)], .string X, .slice (some ⟨gt, 0, none⟩) 64 64] u (Tells (.agg #[.int .u32 (iv F.a), .int .u32 (iv F.b), .int .u32 (iv F.c), .int .u32 (iv F.d), .int .u32 (iv F.e), .int .u32 (iv F.f), .int .u32 (iv F.g), .int .u32 (iv F.h)]) u.heap.size u) := fun u hu => by rw [hsucc]; exact quick_any A X hbs gt u hu
      have x1 : IntKind.i64.wrap ((N : Int) + 64) = (N2 : Int) := by rw [IntWalk.i64_in _ (by omega)]; omega
      have x2 : (N : Int) + 64 = (N2 : Int) := by omega
      have x3 : IntKind.i64.wrap (N2 : Int) = (N2 : Int) := IntWalk.i64_in _ (by omega)
      have i1 : (N : Int) < (ALL.size : Int) := by omega
      have i2 : (N2 : Int) ≤ (ALL.size : Int) := by omega
      have i3 : (N : Int) ≤ (N2 : Int) := by omega
      rw [hN]
      have HN2 := hideIt hN2
      have HN := hideIt hN
      have HF := hideIt hF
      clear hbd hsucc hA hF hbs hN2 hN hMs
      obtain ⟨r0, r1, r2, r3, r4, r5, r6, r7⟩ := (H.box 0).st
      have hin := (H.box 0).inside
      go_upto_region 7 with fail
      refine wp_region_still_tail 7 (by kernel_rfl) (by kernel_rfl) ?_
      simp only [List.take_succ_cons, List.take_zero, List.drop_succ_cons, List.drop_zero]
      iterate 7 (refine wpStill_step (fun K hK => ?_); go_simp; refine hK _ ?_; clear hK K)
      refine wpStill_nil ?_
      change wpList _ _ _ _ _ wr.drew
      have H5 := H.drew
      clear H r0 r1 r2 r3 r4 r5 r6 r7 hin
      generalize wr.drew = W5 at *
      obtain ⟨r0, r1, r2, r3, r4, r5, r6, r7⟩ := (H5.box 0).st
      go_wp2_with (first
        | (go_at_call 111; refine (cQ _ (H5.box 1)).mono ?_; rintro e w6 ⟨rfl, b6⟩
           have H6 := H5.call b6
           obtain ⟨z0, z1, z2, z3, z4, z5, z6, z7, z8⟩ := (H6.box 0).eight
           obtain ⟨y0, y1, y2, y3, y4, y5, y6, y7⟩ := (H6.box 0).st
           clear r0 r1 r2 r3 r4 r5 r6 r7 H5))
      have H7 := H6.st8 (by omega) (by simp; omega) F
      clear z0 z1 z2 z3 z4 z5 z6 z7 z8 y0 y1 y2 y3 y4 y5 y6 y7 H6
      go_roundg (M - (j + 1))
      case measure => have := HG.out; omega
      case rel => exact ⟨j + 1, by omega, rfl, by have := HN.out; have := HN2.out; go_num, by rw [HF.out]; exact H7⟩
    · have e : j = M := by omega
      subst e
      have c1 : IntKind.i64.wrap ((N : Int) + 64) = (N : Int) + 64 := IntWalk.i64_in _ (by omega)
      have c2 : ¬ ((N : Int) + 64 ≤ (ALL.size : Int)) := by omega
      have c2d : decide ((N : Int) + 64 ≤ (ALL.size : Int)) = false := decide_eq_false c2
      rw [hN]
      have hDD := HD.out
      generalize runJ ALL st0 j = A at *
      have HDD := hideIt hDD
      clear HG hMs hDD HD HM
      go_upto_region 8 with fail
      clear c1 c2 c2d
      go_wp2
      go_loopg [7, 8] 8 (fun gk v i wr => ∃ k : Nat, k ≤ 8 ∧ gk = 8 - k ∧ i = .int .i64 k ∧ wr.ownsRow (n4 + 1) 5 1 v (4 * k) (u8s ((stI A).take (4 * k))) ∧ Has w [(n4, 141, A.cs), (gt, 140, arr kB)] wr)
      case atStart => exact ⟨0, by omega, rfl, rfl, World.ownsRow_nil _ _ _ _, H⟩
      case round =>
        clear H
        obtain ⟨k, hk, hgk, rfl, hown, H⟩ := hrel
        have HG := hideIt hgk
        clear hgk
        by_cases hlt : k < 8
        · have r1 := (H.box 0).read k
          rw [St.cs_at _ _ hlt] at r1
          have hin := (H.box 0).inside
          have HS := hideIt (stI_step A k hlt)
          generalize A.at k = x at *
          have b1 : (k : Int) < 8 := by omega
          have hx0 := iv_bd x
          obtain ⟨y0, h0⟩ : ∃ y, iv x / 16777216 = y := ⟨_, rfl⟩
          obtain ⟨q1, g1⟩ : ∃ y, iv x / 65536 = y := ⟨_, rfl⟩
          obtain ⟨q2, g2⟩ : ∃ y, iv x / 256 = y := ⟨_, rfl⟩
          obtain ⟨y1, h1⟩ : ∃ y, q1 % 256 = y := ⟨_, rfl⟩
          obtain ⟨y2, h2⟩ : ∃ y, q2 % 256 = y := ⟨_, rfl⟩
          obtain ⟨y3, h3⟩ : ∃ y, iv x % 256 = y := ⟨_, rfl⟩
          have hwb : wbI x = [y0, y1, y2, y3] := by
            obtain ⟨w0, w1, w2, w3⟩ := wb_eq x
            unfold wbI
            rw [w0, w1, w2, w3, g1, g2, h1, h2, h3, h0, show y0 % 256 = y0 by omega]
          have a0 : (iv x).tdiv 16777216 = y0 := by rw [Int.tdiv_eq_ediv_of_nonneg hx0.1]; exact h0
          have a1 : (iv x).tdiv 65536 = q1 := by rw [Int.tdiv_eq_ediv_of_nonneg hx0.1]; exact g1
          have a2 : (iv x).tdiv 256 = q2 := by rw [Int.tdiv_eq_ediv_of_nonneg hx0.1]; exact g2
          have a3 : (iv x).tmod 256 = y3 := by rw [Int.tmod_eq_emod_of_nonneg hx0.1]; exact h3
          have a4 : q1.tmod 256 = y1 := by rw [Int.tmod_eq_emod_of_nonneg (by omega)]; exact h1
          have a5 : q2.tmod 256 = y2 := by rw [Int.tmod_eq_emod_of_nonneg (by omega)]; exact h2
          have v0 : IntKind.u32.wrap y0 = y0 := by rw [IntKind.wrap_u32']; omega
          have v1 : IntKind.u32.wrap q1 = q1 := by rw [IntKind.wrap_u32']; omega
          have v2 : IntKind.u32.wrap q2 = q2 := by rw [IntKind.wrap_u32']; omega
          have v3 : IntKind.u32.wrap y1 = y1 := by rw [IntKind.wrap_u32']; omega
          have v4 : IntKind.u32.wrap y2 = y2 := by rw [IntKind.wrap_u32']; omega
          have v5 : IntKind.u32.wrap y3 = y3 := by rw [IntKind.wrap_u32']; omega
          have u0 : y0 % 256 = y0 := by omega
          have u1 : y1 % 256 = y1 := by omega
          have u2 : y2 % 256 = y2 := by omega
          have u3 : y3 % 256 = y3 := by omega
          have ex : (b8s [y0, y1, y2, y3]).size = 4 := rfl
          have hgs : n4 + 1 ≤ wr.heap.size := hin
          have HW := hideIt hwb
          clear h0 g1 g2 h1 h2 h3 hwb hx0
          go_wp2_with (first
            | (at_builtin; refine wp_append_new rfl _ _ 135 rfl (n4 + 1) 5 i0 (.int .u8 0) 1 Tryd.underlying135 hi hzi0 hzi1 hzi2 rfl _ _ _ rfl hown (b8s [y0, y1, y2, y3]) rfl (by rw [u8s_b8s]; exact u8s_one _) (by rw [ex]; omega) (by omega) hgs ?_))
          intro vv w3 hown2 hb2 hk2
          have H3 : Has w [(n4, 141, A.cs), (gt, 140, arr kB)] w3 := by
            refine ⟨fun y hy => hk2 _ _ _ (H.1 y hy) ?_, H.2.trans (hb2 w.heap.size (by omega))⟩
            simp only [List.mem_cons, List.not_mem_nil, or_false] at hy
            rcases hy with rfl | rfl
            · show n4 < n4 + 1; omega
            · show gt < n4 + 1; omega
          rw [u8s_b8s, ← u8s_app, ← HW.out, ← HS.out] at hown2
          clear hk2 hb2 hown H r1 hin hgs a0 a1 a2 a3 a4 a5 v0 v1 v2 v3 v4 v5 u0 u1 u2 u3
          go_wp2
          go_roundg (8 - (k + 1))
          case measure => have := HG.out; omega
          case rel => exact ⟨k + 1, by omega, rfl, by go_num, hown2, H3⟩
        · have e : k = 8 := by omega
          subst e
          rw [show (stI A).take (4 * 8) = stI A from rfl] at hown
          have hcv := conv_row hown (by omega)
          rw [← HDD.out] at hcv
          have L := H.below
          clear HG hown H
          go_wp2
          go_ret
          exact ⟨rfl, L⟩
end Go.Proofs.YtkecekfapiegjaaDoor
