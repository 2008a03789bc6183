/-
  The document's Padding, walked: what is put behind a text of whatever length.
-/
import Derived.Test.YtkmnfogcocppjaaDoorU5Pad
import Derived.Deep.AppendLies
namespace Go.Proofs.YtkmnfogcocppjaaDoor
set_option linter.unusedVariables false
set_option linter.unusedSimpArgs false
set_option maxRecDepth 10000
open Go.RowKit

/-- 'append(s, x...)' on rows of bytes: s a row of the call's own, x any row, an empty one too. -/
theorem wpl_append_rows {ops : Array Oper} {rest : List Oper} {o : Oper} {a : Act} {w : World} {Q : Exit → Act → World → Prop} (base : Nat) (hgd : o.guard = none) (s x : Operand)
    (ho : o.op = .call { callee := .builtin .append, args := #[s, x], argTypes := #[66, 66] })
    (v : Value) (n : Nat) (xs : List Int) (hs : a.eval s = v) (hown : w.ownsRow base 5 1 v n (u8s xs))
    (v2 : Value) (m : Nat) (ys : List Int) (base2 : Nat) (hx : a.eval x = v2) (hown2 : w.ownsRow base2 5 1 v2 m (u8s ys)) (hnm : n + m ≤ 1000000) (hbase : base ≤ w.heap.size)
    (h : ∀ v' w', w'.ownsRow base 5 1 v' (n + m) (u8s (xs ++ ys)) → w.grownBy w' v.ownBlock → wpList Tryd.prog ops Q rest (a.put o.dst v') w') : wpList Tryd.prog ops Q (o :: rest) a w := by
  obtain ⟨i0, hi, hz0, hz1, hz2⟩ := info_parts info_u8
  have hl : ys.length = m := by have := hown2.1; rw [u8s_len] at this; omega
  rcases hown2.2 with ⟨rfl, rfl⟩ | ⟨g, cap, cur, rfl, hb, hg, hc, hm, hcs, r⟩
  · obtain rfl : ys = [] := List.length_eq_zero_iff.1 hl
    refine wpList_plain hgd fun K hK => ?_
    have hrun := run_append_owned_none (P := Tryd.prog) w base 66 o.type 5 i0 1 Tryd.underlying66 hi v n (u8s xs) hown
    unfold Oper.wp
    simp [execOp, ho, resolve, invoke, builtin, hs, hx, hrun, Result.andThen]
    exact hK _ _ (h v w (by simpa using hown) ⟨rfl, rfl, rfl, Nat.le_refl _, fun _ _ _ => rfl⟩)
  · have hcell : ∀ j u, (u8s ys)[j]? = some u → w.cell? ((⟨g, 0, none⟩ : Addr).add j) = some u := fun j u hu => by
      have e1 : (⟨g, 0, none⟩ : Addr).add j = ⟨g, j, none⟩ := by simp [Addr.add]; exact fun hj => hj.symm
      rw [e1]
      have hj : j < m * 1 := by rw [← hown2.1]; exact (List.getElem?_eq_some_iff.1 hu).1
      have := hown2.cellAt j hj
      rw [this, hu]
    refine wpList_append_own w hgd s x 66 ho base 5 i0 (.int .u8 0) 1 1 Tryd.underlying66 hi hz0 hz1 hz2 rfl (by decide) v n (u8s xs) hs hown ⟨g, 0, none⟩ m cap (u8s ys) hx (by rw [u8s_len]; omega) hcell (u8s_one _)
      (by unfold maxLen; omega) (by omega) hbase ?_
    intro v' w' h1 h2 _
    exact h v' w' (by rw [u8s_app]; exact h1) h2

/-- The last so many of a number's eight bytes, the greatest first. -/
def tl8 (V : Int) : Nat → List Int
  | 0 => []
  | i + 1 => (V / 256 ^ i % 256) :: tl8 V i
theorem tl8_len (V : Int) : ∀ i, (tl8 V i).length = i
  | 0 => rfl
  | i + 1 => by rw [tl8, List.length_cons, tl8_len V i]
theorem tl8_all (n : Nat) : tl8 ((n * 8 % 18446744073709551616 : Nat) : Int) 8 = wbI (hiB n) ++ wbI (loB n) := by
  have v1 : iv (hiB n) = ((n * 8 % 18446744073709551616 / 4294967296 : Nat) : Int) := by unfold hiB iv; rw [BitVec.toNat_ofNat]; omega
  have v2 : iv (loB n) = ((n * 8 % 4294967296 : Nat) : Int) := by unfold loB iv; rw [BitVec.toNat_ofNat]
  obtain ⟨a0, a1, a2, a3⟩ := wb_eq (hiB n)
  obtain ⟨b0, b1, b2, b3⟩ := wb_eq (loB n)
  unfold wbI
  rw [a0, a1, a2, a3, b0, b1, b2, b3, v1, v2]
  simp only [tl8, List.cons_append, List.nil_append, Int.reducePow, List.cons.injEq, and_true, Int.pow_zero]
  refine ⟨?_, ?_, ?_, ?_, ?_, ?_, ?_, ?_⟩ <;> omega
theorem padI_split (n : Nat) : padI n = (128 :: List.replicate (padN n) 0) ++ tl8 ((n * 8 % 18446744073709551616 : Nat) : Int) 8 := by
  rw [tl8_all]; rfl

set_option maxRecDepth 100000 in
set_option maxHeartbeats 4000000 in
theorem rpadding_any (n : Nat) (hn : n < 18446744073709551616) (w : World) : Calls Tryd.prog 64 #[.int .u64 n] w (Tells (.string (padB n)) w.heap.size w) := by
  obtain ⟨i0, hi, hzi0, hzi1, hzi2⟩ := info_parts info_u8
  obtain ⟨z, hz⟩ : ∃ z, padN n = z := ⟨_, rfl⟩
  have hz64 : z < 64 := by rw [← hz]; exact pad_bd n
  have hwh : ∀ k, k < z → (n + (k + 1)) % 64 ≠ 56 := fun k hk => by rw [← hz] at hk; unfold padN at hk; omega
  have hwz : (n + (z + 1)) % 64 = 56 := by rw [← hz]; unfold padN; omega
  obtain ⟨V, hV⟩ : ∃ V : Int, IntKind.u64.wrap ((n : Int) * 8) = V := ⟨_, rfl⟩
  have hVV : V = ((n * 8 % 18446744073709551616 : Nat) : Int) := by rw [← hV, IntKind.wrap_u64]; omega
  have hpad : padB n = strOfNums ((128 :: List.replicate z 0) ++ tl8 V 8) := by rw [hVV, ← hz, ← padI_split]; rfl
  have HPAD := hideIt hpad
  have hv0 : 0 ≤ V := by omega
  have hv1 : V < 18446744073709551616 := by omega
  have HWH := hideIt hwh
  have HWZ := hideIt hwz
  clear hpad hVV hwh hwz
  have B0 := Box.made w 5 (b8s ([128] ++ []))
  have hown0 := own_of_box (base := w.heap.size) (n := 1) (cap := 1) B0 (Nat.le_refl _) rfl rfl (by decide)
  have L0 : Below w.heap.size w (w.alloc (.cells (b8s ([128] ++ [])) 5)) := (Below.refl _ w).alloc (Nat.le_refl _) _
  go_enter Tryd.func64, Tryd.ntmps64
  go_upto_region 2 with fail
  change Code.wp _ _ _ _ (w.alloc (.cells (b8s ([128] ++ [])) 5))
  generalize w.alloc (.cells (b8s ([128] ++ [])) 5) = W at *
  go_loopg [3] z (fun gk v wr => ∃ k : Nat, k ≤ z ∧ gk = z - k ∧ wr.ownsRow w.heap.size 5 1 v (k + 1) (u8s (128 :: List.replicate k 0)) ∧ Below w.heap.size w wr)
  case atStart => exact ⟨0, by omega, rfl, hown0, L0⟩
  case round =>
    clear hown0 L0 B0
    obtain ⟨k, hk, hgk, hown, L⟩ := hrel
    have HG := hideIt hgk
    clear hgk
    have hgs := L.size
    obtain ⟨g, cap, rfl, hgb, hglt, hc, hm, -, -⟩ := own_row hown (by omega)
    obtain ⟨T, hT⟩ : ∃ T, k + 1 = T := ⟨_, rfl⟩
    obtain ⟨R, hR⟩ : ∃ R, (n + T) % 64 = R := ⟨_, rfl⟩
    have t1 : (T : Int) % 18446744073709551616 = (T : Int) := by omega
    have t2 : (IntKind.u64.wrap ((n : Int) + (T : Int))).tmod 64 = (R : Int) := by rw [IntKind.wrap_u64, Int.tmod_eq_emod_of_nonneg (by omega)]; omega
    rw [hT] at hown ⊢
    by_cases hlt : k < z
    · have hne : ¬ ((R : Int) = 56) := by have := HWH.out k hlt; omega
      have e1 : (128 : Int) :: List.replicate (k + 1) 0 = (128 :: List.replicate k 0) ++ [0] := by rw [List.replicate_succ', List.cons_append]
      have HT := hideIt hT
      have hTb : T ≤ 100 := by omega
      clear hT hR
      go_wp2_with (first
        | (at_builtin; refine wp_append_new rfl _ _ 66 rfl w.heap.size 5 i0 (.int .u8 0) 1 Tryd.underlying66 hi hzi0 hzi1 hzi2 rfl _ _ _ rfl hown #[.int .u8 0] rfl (by simp [Value.oneCell']) (by simp; omega) (by omega) hgs ?_))
      intro v1 w1 hown1 hb1 hk1
      have L1 := L.trans (hb1 _ (Nat.le_refl _))
      have hown2 : w1.ownsRow w.heap.size 5 1 v1 (k + 1 + 1) (u8s (128 :: List.replicate (k + 1) 0)) := by
        rw [e1, u8s_app, HT.out]; exact hown1
      clear hb1 hk1 hown1 hown
      go_wp2
      go_roundg (z - (k + 1))
      case measure => have := HG.out; omega
      case rel => exact ⟨k + 1, by omega, rfl, hown2, L1⟩
    · have e : k = z := by omega
      subst e
      have hR56 : R = 56 := by have := HWZ.out; omega
      subst hR56
      have hTb : T ≤ 100 := by omega
      have HT := hideIt hT
      clear HG hT hR
      go_wp2
      go_loopg [4, 5, 6] 8 (fun gk m v i wr2 => ∃ j : Nat, j ≤ 8 ∧ gk = 8 - j ∧ i = .int .i64 j ∧ m = .int .u64 (V / 256 ^ j) ∧ wr2.ownsRow w.heap.size 5 1 v j (u8s (tl8 V j)) ∧
        wr2.ownsRow w.heap.size 5 1 (.slice (some ⟨g, 0, none⟩) T cap) T (u8s (128 :: List.replicate k 0)) ∧ Below w.heap.size w wr2)
      case atStart => exact ⟨0, by omega, rfl, rfl, by simp, World.ownsRow_nil _ _ _ _, hown, L⟩
      case round =>
        clear hown L hgs hglt
        obtain ⟨j, hj, hgk, rfl, rfl, hown, hout, L⟩ := hrel
        have HG := hideIt hgk
        clear hgk
        have hgs := L.size
        by_cases hlt2 : j < 8
        · have hp : (0 : Int) < 256 ^ j := Int.pow_pos (by decide)
          have hq0 : 0 ≤ V / 256 ^ j := Int.ediv_nonneg hv0 (by omega)
          have hq1 : V / 256 ^ j ≤ V := Int.ediv_le_self _ hv0
          have hq2 : V / 256 ^ j / 256 = V / 256 ^ (j + 1) := by rw [Int.ediv_ediv_of_nonneg (by omega), Int.pow_succ]
          have hstep : tl8 V (j + 1) = (V / 256 ^ j % 256) :: tl8 V j := rfl
          obtain ⟨q, hq⟩ : ∃ q, V / 256 ^ j = q := ⟨_, rfl⟩
          rw [hq] at hq0 hq1 hq2 hstep ⊢
          obtain ⟨x, hx⟩ : ∃ x, q % 256 = x := ⟨_, rfl⟩
          rw [hx] at hstep
          have d1 : q.tmod 256 = x := by rw [Int.tmod_eq_emod_of_nonneg hq0]; exact hx
          have d2 : x % 256 = x := by omega
          have d4 : q.tdiv 256 = V / 256 ^ (j + 1) := by rw [Int.tdiv_eq_ediv_of_nonneg hq0]; exact hq2
          obtain ⟨y, hy⟩ : ∃ y, V / 256 ^ (j + 1) = y := ⟨_, rfl⟩
          rw [hy] at d4 hq2
          have hy1 : IntKind.u64.wrap y = y := by rw [IntKind.wrap_u64]; omega
          have HY := hideIt hy
          have HST := hideIt hstep
          have olit : (wr.alloc (.cells #[.int .u8 x] 5)).ownsRow w.heap.size 5 1 (.slice (some ⟨wr.heap.size, 0, none⟩) 1 1) 1 (u8s [x]) :=
            by
            have e : (#[.int .u8 x] : Array Value) = b8s ([x] ++ []) := rfl
            rw [e]
            exact own_of_box (xs := [x]) (ys := []) (Box.made wr 5 (b8s ([x] ++ []))) hgs rfl rfl (by decide)
          have otail := hown.alloc (.cells #[.int .u8 x] 5)
          have oout := hout.alloc (.cells #[.int .u8 x] 5)
          have hgo := (hout.lt g rfl).2
          clear hq hx hy hp hstep hq2
          go_wp2_with (first
            | (at_builtin; refine wpl_append_rows w.heap.size rfl _ _ rfl _ 1 [x] rfl olit _ j (tl8 V j) w.heap.size rfl otail (by omega) (by simp; omega) ?_))
          intro v1 w1 hown1 hg1
          have oout1 := oout.kept hg1 (.inr (by simp [Value.ownBlock]; omega))
          have L1 : Below w.heap.size w w1 := L.trans (((Below.refl w.heap.size wr).alloc hgs _).grown hg1 (by simp; omega) (fun k hk => by simp [Value.ownBlock] at hk; omega))
          have hown2 : w1.ownsRow w.heap.size 5 1 v1 (j + 1) (u8s (tl8 V (j + 1))) := by
            rw [HST.out, show j + 1 = 1 + j by omega]; exact hown1
          clear hown1 hg1 oout otail olit hown hout
          go_wp2
          go_roundg (8 - (j + 1))
          case measure => have := HG.out; omega
          case rel => exact ⟨j + 1, by omega, rfl, by go_num, by rw [HY.out], hown2, oout1, L1⟩
        · have e : j = 8 := by omega
          subst e
          clear HG
          have fin_ : ∀ (v2 : Value) (w2 : World), w2.ownsRow w.heap.size 5 1 v2 (T + 8) (u8s ((128 :: List.replicate k 0) ++ tl8 V 8)) → (convert 66 9 v2).run Tryd.prog w2 = .ok (.string (padB n)) w2 := fun v2 w2 h => by
            have h2 := conv_row h (by omega)
            rw [HPAD.out]
            exact h2
          go_wp2_with (first
            | (at_builtin; refine wpl_append_rows w.heap.size rfl _ _ rfl _ T (128 :: List.replicate k 0) rfl hout _ 8 (tl8 V 8) w.heap.size rfl hown (by omega) hgs ?_))
          intro v1 w1 hown1 hg1
          have hcv := fin_ v1 w1 hown1
          have L1 : Below w.heap.size w w1 := L.grown hg1 hgs (fun k hk => by simp [Value.ownBlock] at hk; omega)
          clear fin_ hown1 hg1 hown hout
          go_wp2
          go_ret
          exact ⟨rfl, L1⟩
end Go.Proofs.YtkmnfogcocppjaaDoor
