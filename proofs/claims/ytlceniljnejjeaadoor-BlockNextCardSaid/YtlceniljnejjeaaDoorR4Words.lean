/-
  The document's Words, walked: the 64 words of a text of 64 bytes; nothing of any other one.
-/
import Derived.Test.YtlceniljnejjeaaDoorR4Turn
import Derived.Deep.RegionHeld3
import Derived.Deep.AppendLies
import Derived.Deep.RegionLaw
import Derived.RegionTactic
import Derived.Deep.CutRange
import Derived.Deep.DeepCutAuto
namespace Go.Proofs.YtlceniljnejjeaaDoor
set_option linter.unusedVariables false
set_option linter.unusedSimpArgs false
open Go.RowKit

theorem info_u32 : (Tryd.prog.info? 22).map (fun i => (i.zero, i.size, i.bytes)) = some (some (.int .u32 0), 1, 4) := by kernel_rfl

/-- Words told by a row of the call's own. -/
def RowTells (l : List B32) (f : Int) (w : World) (e : Ending) (w' : World) : Prop := ∃ v, e = .returned (.tuple #[v, .int .i64 f]) ∧ w'.ownsRow w.heap.size 22 1 v l.length (w32s l) ∧ Below w.heap.size w w'

set_option maxHeartbeats 4000000 in
theorem rwords_ok (s : ByteArray) (hs : s.size = 64) (w : World) : Calls Tryd.prog 47 #[.string s] w (RowTells (words64 s.data.toList) 0 w) := by
  obtain ⟨i0, hi, hz0, hz1, hz2⟩ := info_parts info_u32
  have hls : s.data.toList.length = 64 := by simpa using hs
  have HLS := hideIt hls
  clear hls
  go_enter Tryd.func47, Tryd.ntmps47
  go_wp2
  go_loopg [4, 5, 6, 7] 16 (fun gk v i _ _ wr => ∃ k : Nat, k ≤ 16 ∧ gk = 16 - k ∧ i = .int .i64 k ∧ wr.ownsRow w.heap.size 22 1 v k (w32s ((own16 s.data.toList).take k)) ∧ Below w.heap.size w wr)
  case atStart => exact ⟨0, by omega, rfl, rfl, ⟨rfl, .inl ⟨rfl, rfl⟩⟩, Below.refl _ _⟩
  case round =>
    obtain ⟨k, hk, hgk, rfl, hown, hbel⟩ := hrel
    have HG := hideIt hgk
    clear hgk
    by_cases hlt : k < 16
    · have HS := hideIt (own16_step s.data.toList k hlt)
      have HB := hideIt (be_take s.data.toList (4 * k) (by rw [HLS.out]; omega))
      generalize be4 (s.data.toList.getD (4 * k) 0) (s.data.toList.getD (4 * k + 1) 0) (s.data.toList.getD (4 * k + 2) 0) (s.data.toList.getD (4 * k + 3) 0) = x at *
      have hs2 := hbel.size
      have HH := hideIt hown
      clear hown
      go_wp2
      go_loop [6, 7] (fun n i => ∃ j : Nat, j ≤ 4 ∧ i = .int .i64 j ∧ n = .int .u32 (beI ((s.data.toList.drop (4 * k)).take j))) (fun _ i => 4 - (intOf i).toNat)
      case atStart => exact ⟨0, by omega, rfl, rfl⟩
      case round =>
        obtain ⟨j, hj, rfl, rfl⟩ := hrel
        by_cases hlt2 : j < 4
        · obtain ⟨N, hN⟩ : ∃ N, N = 4 * k + j := ⟨_, rfl⟩
          have hidx : N < s.size := by omega
          have hts : (s.data.toList.drop (4 * k)).take (j + 1) = (s.data.toList.drop (4 * k)).take j ++ [s[N]] := by
            subst hN
            rw [List.take_succ_eq_append_getElem (by rw [List.length_drop, HLS.out]; omega), List.getElem_drop]; rfl
          have hn := beI_snoc ((s.data.toList.drop (4 * k)).take j) s[N]
          rw [← hts] at hn
          have HN := hideIt hn
          clear hts hn
          have ha0 := beI_lt3 ((s.data.toList.drop (4 * k)).take j) (by rw [List.length_take]; omega)
          have ha1 := (beI_bd ((s.data.toList.drop (4 * k)).take j)).1
          generalize beI ((s.data.toList.drop (4 * k)).take j) = a at *
          have hc := (s[N]).toNat_lt
          have hb1 : IntKind.i64.wrap (4 * (k : Int)) = 4 * (k : Int) := IntWalk.i64_in _ (by omega)
          have hb2 : IntKind.i64.wrap (4 * (k : Int) + (j : Int)) = (N : Int) := by rw [IntWalk.i64_in _ (by omega)]; omega
          have hb3 : 4 * (k : Int) + (j : Int) = (N : Int) := by omega
          have m1 : 256 * a % 4294967296 = 256 * a := by omega
          have m2 : (s[N].toNat : Int) % 4294967296 = (s[N].toNat : Int) := by omega
          have m3 : (256 * a + (s[N].toNat : Int)) % 4294967296 = 256 * a + (s[N].toNat : Int) := by omega
          have hN64 : (N : Int) < 64 := by omega
          have HNN := hideIt hN
          clear hN ha0 hc
          go_wp2
          all_goals
            go_round
            case rel => exact ⟨j + 1, by omega, by go_num, by rw [HN.out, Int.mul_comm]⟩
            case measure => simp [intOf]; omega
        · have e : j = 4 := by omega
          subst e
          rw [HB.out]
          have hown := HH.out
          go_wp2_with (first
            | (at_builtin; refine wp_append_new rfl _ _ 36 rfl w.heap.size 22 i0 (.int .u32 0) 4 Tryd.underlying36 hi hz0 hz1 hz2 rfl _ _ _ rfl hown #[.int .u32 (iv x)] rfl (by simp [Value.oneCell']) (by simp; omega) (by omega) (by omega) ?_))
          intro v' w1 hown' hb1 hk1
          have hbel1 := hbel.trans (hb1 _ (by omega))
          clear hb1 hk1 hown HH
          have hown2 : w1.ownsRow w.heap.size 22 1 v' (k + 1) (w32s ((own16 s.data.toList).take (k + 1))) := by
            rw [HS.out]; simpa [w32s] using hown'
          clear hown'
          go_wp2
          go_roundg (16 - (k + 1))
          case measure => have := HG.out; omega
          case rel => exact ⟨k + 1, by omega, rfl, by go_num, hown2, hbel1⟩
    · have e : k = 16 := by omega
      subst e
      rw [List.take_of_length_le (Nat.le_of_eq (own16_len _))] at hown
      have hfin : words64 s.data.toList = grow 48 (own16 s.data.toList) := rfl
      have HF := hideIt hfin
      clear hfin HLS HG
      have ho : (own16 s.data.toList).length = 16 := own16_len _
      have HO := hideIt ho
      clear ho
      generalize own16 s.data.toList = o at *
      have HH := hideIt hown
      clear hown
      go_wp2
      go_loopg [4, 8, 9, 10, 11, 12] 48 (fun gk v i _ _ _ _ wr => ∃ k : Nat, 16 ≤ k ∧ k ≤ 64 ∧ gk = 64 - k ∧ i = .int .i64 k ∧ wr.ownsRow w.heap.size 22 1 v k (w32s (grow (k - 16) o)) ∧ Below w.heap.size w wr)
      case atStart => exact ⟨16, by omega, by omega, by omega, rfl, HH.out, hbel⟩
      case round =>
        clear hbel HH
        obtain ⟨k, hk0, hk, hgk, rfl, hown, hbel⟩ := hrel
        have HG := hideIt hgk
        have HK := hideIt hk0
        clear hgk
        by_cases hlt : k < 64
        · have hlen : (grow (k - 16) o).length = k := by rw [grow_len, HO.out]; omega
          have hst : grow (k + 1 - 16) o = grow (k - 16) o ++ [nextW (grow (k - 16) o)] := by rw [show k + 1 - 16 = (k - 16) + 1 by omega, grow_snoc]
          have HS := hideIt hst
          clear hst
          generalize grow (k - 16) o = m at *
          have hn : nextW m = m.getD (k - 16) 0 + sig0 (m.getD (k - 15) 0) + m.getD (k - 7) 0 + sig1 (m.getD (k - 2) 0) := by unfold nextW; rw [hlen]
          have HN := hideIt hn
          clear hn
          obtain ⟨g, cap, rfl, q1, q2, q3, q4, q5, q6⟩ := own_row hown (by omega)
          have rd : ∀ j, j < k → wr.cell? ⟨g, j, none⟩ = some (.int .u32 (iv (m.getD j 0))) := fun j hj => q5 j _ (by
            simp [w32s, List.getD_eq_getElem?_getD, show j < m.length by omega])
          have r1 := rd (k - 16) (by omega)
          have r2 := rd (k - 15) (by omega)
          have r3 := rd (k - 7) (by omega)
          have r4 := rd (k - 2) (by omega)
          clear rd
          generalize m.getD (k - 16) 0 = x1 at *
          generalize m.getD (k - 15) 0 = x2 at *
          generalize m.getD (k - 7) 0 = x3 at *
          generalize m.getD (k - 2) 0 = x4 at *
          obtain ⟨K, hK⟩ : ∃ K : Int, (k : Int) = K := ⟨_, rfl⟩
          have K1 : K < 64 := by omega
          rw [hK]
          obtain ⟨i1, f1⟩ : ∃ i, K - 16 = i := ⟨_, rfl⟩
          obtain ⟨j1, g1⟩ : ∃ j, k - 16 = j := ⟨_, rfl⟩
          have w1 : IntKind.i64.wrap (K - 16) = i1 := by rw [f1]; exact IntWalk.i64_in _ (by omega)
          have s1 : 0 ≤ i1 := by omega
          have t1 : i1 < (k : Int) := by omega
          have n1 : i1.toNat = j1 := by omega
          rw [g1] at r1
          obtain ⟨i2, f2⟩ : ∃ i, K - 15 = i := ⟨_, rfl⟩
          obtain ⟨j2, g2⟩ : ∃ j, k - 15 = j := ⟨_, rfl⟩
          have w2 : IntKind.i64.wrap (K - 15) = i2 := by rw [f2]; exact IntWalk.i64_in _ (by omega)
          have s2 : 0 ≤ i2 := by omega
          have t2 : i2 < (k : Int) := by omega
          have n2 : i2.toNat = j2 := by omega
          rw [g2] at r2
          obtain ⟨i3, f3⟩ : ∃ i, K - 7 = i := ⟨_, rfl⟩
          obtain ⟨j3, g3⟩ : ∃ j, k - 7 = j := ⟨_, rfl⟩
          have w3 : IntKind.i64.wrap (K - 7) = i3 := by rw [f3]; exact IntWalk.i64_in _ (by omega)
          have s3 : 0 ≤ i3 := by omega
          have t3 : i3 < (k : Int) := by omega
          have n3 : i3.toNat = j3 := by omega
          rw [g3] at r3
          obtain ⟨i4, f4⟩ : ∃ i, K - 2 = i := ⟨_, rfl⟩
          obtain ⟨j4, g4⟩ : ∃ j, k - 2 = j := ⟨_, rfl⟩
          have w4 : IntKind.i64.wrap (K - 2) = i4 := by rw [f4]; exact IntWalk.i64_in _ (by omega)
          have s4 : 0 ≤ i4 := by omega
          have t4 : i4 < (k : Int) := by omega
          have n4 : i4.toNat = j4 := by omega
          rw [g4] at r4
          have HKK := hideIt hK
          clear hk0 hK g1 g2 g3 g4 hlen f1 f2 f3 f4
          have c1 := fun u => rturn_lit x2 7 7 rfl (by decide) u
          have c2 := fun u => rturn_lit x2 18 18 rfl (by decide) u
          have c3 := fun u => move_lit x2 3 3 rfl (by decide) u
          have c4 := fun u => rturn_lit x4 17 17 rfl (by decide) u
          have c5 := fun u => rturn_lit x4 19 19 rfl (by decide) u
          have c6 := fun u => move_lit x4 10 10 rfl (by decide) u
          have c7 := fun u => xor_any (rot x2 7) (rot x2 18) (x2 >>> 3) u
          have c8 := fun u => xor_any (rot x4 17) (rot x4 19) (x4 >>> 10) u
          have y2 : rot x2 7 ^^^ rot x2 18 ^^^ x2 >>> 3 = sig0 x2 := rfl
          have y4 : rot x4 17 ^^^ rot x4 19 ^^^ x4 >>> 10 = sig1 x4 := rfl
          rw [y2] at c7
          rw [y4] at c8
          clear y2 y4
          go_wp2
          go_quiet (fail)
          go_wp2_with (first
            | (go_at_call_of 56 (Value.int .i64 7); refine (c1 _).mono ?_; rintro e w' ⟨rfl, rfl⟩)
            | (go_at_call_of 56 (Value.int .i64 18); refine (c2 _).mono ?_; rintro e w' ⟨rfl, rfl⟩)
            | (go_at_call_of 64 (Value.int .i64 3); refine (c3 _).mono ?_; rintro e w' ⟨rfl, rfl⟩)
            | (go_at_call_of 56 (Value.int .i64 17); refine (c4 _).mono ?_; rintro e w' ⟨rfl, rfl⟩)
            | (go_at_call_of 56 (Value.int .i64 19); refine (c5 _).mono ?_; rintro e w' ⟨rfl, rfl⟩)
            | (go_at_call_of 64 (Value.int .i64 10); refine (c6 _).mono ?_; rintro e w' ⟨rfl, rfl⟩)
            | (go_at_call_of 55 (Value.int .u32 (iv (rot x2 7))); refine (c7 _).mono ?_; rintro e w' ⟨rfl, nn1, rfl⟩)
            | (go_at_call_of 55 (Value.int .u32 (iv (rot x4 17))); refine (c8 _).mono ?_; rintro e w' ⟨rfl, nn2, rfl⟩))
          generalize hW2 : World.drewN _ _ = W2
          have hownD : W2.ownsRow w.heap.size 22 1 (.slice (some ⟨g, 0, none⟩) k cap) k (w32s m) := by rw [← hW2]; exact own_draws hown _
          have hbelD : Below w.heap.size w W2 := by rw [← hW2]; exact below_drewN hbel _
          have r1' : W2.cell? ⟨g, j1, none⟩ = some (.int .u32 (iv x1)) := by rw [← hW2]; exact r1
          have r3' : W2.cell? ⟨g, j3, none⟩ = some (.int .u32 (iv x3)) := by rw [← hW2]; exact r3
          have hfr : ∀ j, W2.frozen? ⟨g, j, none⟩ = false := by rw [← hW2]; exact q6
          have hs2 := hbelD.size
          have hgl : g < W2.heap.size := by rw [← hW2]; exact q2
          clear hW2 hown hbel r1 r2 r3 r4 q2 q5 q6 c1 c2 c3 c4 c5 c6 c7 c8
          have y1 := iv_add
          go_region_law (first
            | (refine step_append_lies _ (by rfl) _ _ _ (by rfl) w.heap.size 22 i0 _ 1 4 Tryd.underlying36 hi hz0 hz1 hz2 rfl (by omega) _ _ _ (by rfl) ((hownD.alloc _).drew)
                ⟨W2.heap.size, 0, none⟩ 1 1 [.int .u32 (iv (x1 + sig0 x2 + x3 + sig1 x4))] (by rfl) (by rfl) (World.news_of_block (cs := #[.int .u32 (iv (x1 + sig0 x2 + x3 + sig1 x4))]) (t := 22) (fr := (0, 0)) (heap_alloc_new W2 _)) (by simp [Value.oneCell'])
                (by omega) (by unfold maxLen; omega) (by omega) (by simp; omega) (W2.heap.size + 1) (by simp) ?_; intro gg cc wz hown1 hgrow hat hlt2))
          all_goals
            have hownN : wz.ownsRow w.heap.size 22 1 (.slice (some ⟨gg, 0, none⟩) (k + 1) cc) (k + 1) (w32s (grow (k + 1 - 16) o)) := by
              rw [HS.out, HN.out]; simpa [w32s] using hown1
            have hbelN : Below w.heap.size w wz := hbelD.trans (((Below.refl w.heap.size W2).alloc hs2 _).drew.grown hgrow (by simp; omega) (fun k hk => by have := (hownD.lt k hk).1; omega))
            rw [← HKK.out]
            clear hown1 hgrow hat hlt2 hownD hbelD r1' r3' hfr w1 w2 w3 w4 s1 s2 s3 s4 t1 t2 t3 t4 n1 n2 n3 n4 K1 y1
            go_wp2
            go_roundg (64 - (k + 1))
            case measure => have := HG.out; omega
            case rel => exact ⟨k + 1, by have := HK.out; omega, by omega, rfl, by go_num, hownN, hbelN⟩
        · have e : k = 64 := by omega
          subst e
          clear hk0 HG HK
          rw [show 64 - 16 = 48 from rfl, ← HF.out] at hown
          clear HF HO
          have hl64 := words64_len s.data.toList
          generalize words64 s.data.toList = W64 at *
          go_wp2
          exact bodyPost_ret (v := .tuple #[u4, .int .i64 0]) (by simp [results, Tryd.results47, go_sem]) rfl ⟨u4, rfl, by rw [hl64]; exact hown, hbel⟩

theorem rwords_no (s : ByteArray) (hs : s.size ≠ 64) (hm : s.size ≤ 9223372036854775807) (w : World) : Calls Tryd.prog 47 #[.string s] w fun e w' =>
    e = .returned (.tuple #[.slice none 0 0, .int .i64 2]) ∧ w = w' := by
  have h : ¬ ((s.size : Int) = 64) := by omega
  go_enter Tryd.func47, Tryd.ntmps47
  go_wp2
  exact bodyPost_ret (v := .tuple #[.slice none 0 0, .int .i64 2]) (by simp [results, Tryd.results47, go_sem]) rfl ⟨rfl, rfl⟩
end Go.Proofs.YtlceniljnejjeaaDoor
