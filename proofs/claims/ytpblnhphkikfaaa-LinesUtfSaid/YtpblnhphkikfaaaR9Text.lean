/-
  paymasterref09.Text, SameRunes, Same, walked.
-/
import Derived.Test.YtpblnhphkikfaaaU9Text
import Derived.Test.YtpblnhphkikfaaaU9Runes
import Derived.Lib.UnsafeStr
import Derived.Laws.BytesArg
namespace Go.Proofs.Ytpblnhphkikfaaa
set_option linter.unusedVariables false
set_option linter.unusedSimpArgs false
set_option maxRecDepth 10000
open Go.RowKit Go.Lib

theorem info_byte9 : (Try.prog.info? 5).map (fun i => (i.zero, i.size, i.bytes)) = some (some (.int .u8 0), 1, 1) := by kernel_rfl

theorem list_new (W : World) (t : TypeId) (cs : List Value) : ∀ j x, cs[j]? = some x → (W.alloc (.cells cs.toArray t)).cell? ((⟨W.heap.size, 0, none⟩ : Addr).add j) = some x := fun j x hx => by
  have e1 : (⟨W.heap.size, 0, none⟩ : Addr).add j = ⟨W.heap.size, j, none⟩ := by simp [Addr.add]; exact fun hj => hj.symm
  rw [e1, (Box.made W t cs.toArray).read j]
  simpa using hx

theorem nums_bA (q : List UInt8) : strOfNums (q.map fun b : UInt8 => (b.toNat : Int)) = bA q := by
  apply ba_ext
  rw [bA_list, strOfNums_data, List.map_map]
  conv => rhs; rw [← List.map_id q]
  apply List.map_congr_left
  intro c _
  simp
theorem conv_own {W : World} {b : Nat} {v : Value} {q : List UInt8} (h : W.ownsRow b 5 1 v q.length (Lib.byteCells q)) : (convert 65 9 v).run Try.prog W = .ok (.string (bA q)) W := by
  by_cases h0 : 0 < q.length
  · obtain ⟨g, cap, rfl, -, -, -, -, hc, -⟩ := own_row h h0
    have := run_convert_bytes_arg (P := Try.prog) W 65 5 Try.underlying65 Try.underlying5 g 0 q.length cap (q.map fun b : UInt8 => (b.toNat : Int)) (by simp) (fun i hi => by
      rw [Nat.zero_add]
      refine hc i _ ?_
      unfold Lib.byteCells
      rw [List.getElem?_map, List.getElem?_eq_getElem hi, List.getD_eq_getElem?_getD, List.getElem?_map, List.getElem?_eq_getElem hi]
      rfl) 9 Try.underlying9
    rw [nums_bA] at this
    exact this
  · have e : q = [] := List.eq_nil_of_length_eq_zero (by omega)
    subst e
    rcases h.2 with ⟨h1, -⟩ | ⟨g, cap, cur, h1, -⟩
    · subst h1
      rw [run_convert_bytes_nil W _ _ Try.underlying65 Try.underlying5 _ _ _ Try.underlying9]
      rfl
    · subst h1
      have := run_convert_bytes_arg (P := Try.prog) W 65 5 Try.underlying65 Try.underlying5 g 0 0 cap [] rfl (fun i hi => by omega) 9 Try.underlying9
      exact this
set_option maxRecDepth 100000 in
set_option maxHeartbeats 4000000 in
theorem rtext_any (A : Option Addr) (c : Nat) (l : List Int) (hm : l.length ≤ 1000000) (hz : ∀ r ∈ l, -2147483648 ≤ r ∧ r ≤ 2147483647) (w : World) (hr : RuneRow w w.heap.size A l) :
    Calls Try.prog 20 #[.slice A l.length c] w (Tells (.tuple (if okAll l then #[.string (bA (textZ l)), .int .i64 0] else #[.string ⟨#[]⟩, .int .i64 90])) w.heap.size w) := by
  obtain ⟨i0, hi, hz0, hz1, hz2⟩ := info_parts info_byte9
  obtain ⟨R, hR⟩ : ∃ R, (if okAll l then (#[.string (bA (textZ l)), .int .i64 0] : Array Value) else #[.string ⟨#[]⟩, .int .i64 90]) = R := ⟨_, rfl⟩
  rw [hR]
  have HR := hideIt hR
  clear hR
  go_enter Try.func20, Try.ntmps20
  go_wp2
  go_loopg [4, 5, 6] l.length (fun gk v i x wr => ∃ (k : Nat) (q : List UInt8), k ≤ l.length ∧ gk = l.length - k ∧ i = .int .i64 k ∧ Hid (q = textZ (l.take k)) ∧ q.length ≤ 4 * k ∧ wr.ownsRow w.heap.size 5 1 v q.length (Lib.byteCells q) ∧ Below w.heap.size w wr ∧ Hid (okAll (l.take k) = true))
  case atStart => exact ⟨0, [], by omega, rfl, rfl, rfl, by simp, by exact World.ownsRow_nil _ _ _ _, Below.refl _ _, rfl⟩
  case round =>
    obtain ⟨k, q, hk, hgk, rfl, hq, hql, hown, hb, hok⟩ := hrel
    have HG := hideIt hgk
    clear hgk
    by_cases hlt : k < l.length
    · obtain ⟨s, hs⟩ : ∃ s, l[k]? = some s := ⟨_, List.getElem?_eq_getElem hlt⟩
      have htk : l.take (k + 1) = l.take k ++ [s] := by
        rw [List.take_add_one, hs]; rfl
      have hlti : (k : Int) < (l.length : Int) := by omega
      obtain ⟨ad, rfl, hadl, hac⟩ := hr.call hb k s hs
      have hadw : (ad.add k).block < wr.heap.size := by rw [addr_block]; exact Nat.lt_of_lt_of_le hadl hb.size
      have hmem : s ∈ l := List.mem_of_getElem? hs
      cases hc : okR s
      · have e : R = #[.string ⟨#[]⟩, .int .i64 90] := by
          rw [← HR.out, if_neg]
          intro h
          have := List.all_eq_true.1 h s hmem
          rw [hc] at this
          cases this
        subst e
        have hzs := hz s hmem
        have hi64 : IntKind.i64.wrap s = s := by rw [IntKind.wrap_i64]; omega
        have hcr : ¬ ((0 ≤ s ∧ s < 55296) ∨ (57343 < s ∧ s ≤ 1114111)) := fun h => by rw [(okR_iff s).2 h] at hc; cases hc
        clear htk hs hmem HR hc hz
        by_cases d1 : s < 0
        · clear hcr
          go_wp2
          go_ret2
          exact ⟨rfl, hb⟩
        · by_cases d2 : 1114111 < s
          · clear hcr
            go_wp2
            go_ret2
            exact ⟨rfl, hb⟩
          · have d3 : 55296 ≤ s := by omega
            have d4 : s < 57344 := by omega
            clear hcr
            go_wp2
            go_ret2
            exact ⟨rfl, hb⟩
      · have h10' : okAll (l.take (k + 1)) = true := by
          rw [htk]
          have := hok.out
          unfold okAll at this ⊢
          rw [List.all_append, this]
          simp [hc]
        have htz : textZ (l.take (k + 1)) = textZ (l.take k) ++ encL s.toNat := by rw [htk]; simp [textZ]
        rw [← hq.out] at htz
        have H10 := hideIt h10'
        obtain ⟨c, rfl⟩ : ∃ c : Nat, s = (c : Int) := ⟨s.toNat, by have := (okR_iff s).1 hc; omega⟩
        rw [Int.toNat_natCast] at htz
        have hcr := (okR_iff _).1 hc
        have HT := hideIt htz
        clear h10' hok htk hs hc hmem htz hz
        have hi64 : IntKind.i64.wrap (c : Int) = c := by rw [IntKind.wrap_i64]; omega
        have hmt : (c : Int) ≤ 1114111 := by omega
        have hn0 : ¬ ((c : Int) < 0) := by omega
        have hn1 : ¬ ((1114111 : Int) < (c : Int)) := by omega
        by_cases c1 : c < 128
        · have k1 : (c : Int) < 128 := by omega
          have k3 : ¬ ((55296 : Int) ≤ (c : Int)) := by omega
          have w8 : IntKind.u8.wrap (c : Int) = (c : Int) := by rw [IntKind.wrap_u8]; omega
          have w9 : (UInt8.ofNat c).toNat = c := UInt8.toNat_ofNat_of_lt' (by show _ < 256; omega)
          have e : encL c = [UInt8.ofNat c] := by unfold encL; rw [if_pos c1]
          have hbc : Lib.byteCells (q ++ encL c) = Lib.byteCells q ++ [.int .u8 (c : Int)] := by rw [e]; simp [Lib.byteCells, w9]
          have hln : (q ++ encL c).length = q.length + 1 := by rw [e]; simp
          have hml : q.length + 1 ≤ maxLen := by unfold maxLen; omega
          have hpl : (q.length + 1) * 1 ≤ 140737488355328 := by omega
          have HB := hideIt hbc
          have HN := hideIt hln
          clear e hbc hln hmt hcr c1
          go_wp2_with (first
            | (at_builtin; refine wpList_append_own (w := wr.alloc (.cells #[.int .u8 c] 5)) rfl _ _ 65 rfl w.heap.size 5 i0 (.int .u8 0) 1 1 Try.underlying65 hi hz0 hz1 hz2 rfl (by decide) _ _ _ rfl (hown.alloc _) ⟨wr.heap.size, 0, none⟩ 1 1 [.int .u8 c] rfl rfl (list_new _ _ [.int .u8 c]) (by simp [Value.oneCell']) hml hpl (by have := hb.size; simp; omega) ?_; intro v' w1 hown' hgrow _))
          have q3 : Below w.heap.size w w1 := (chainA hb _).grown hgrow (by have := hb.size; simp; omega) (fun k hk => (hown.lt k hk).1)
          have q2 : w1.ownsRow w.heap.size 5 1 v' (q ++ encL c).length (Lib.byteCells (q ++ encL c)) := by rw [HB.out, HN.out]; exact hown'
          go_roundg (l.length - (k + 1))
          case measure => have := HG.out; omega
          case rel => exact ⟨k + 1, q ++ encL c, by omega, rfl, by go_num, HT.out.symm, by rw [HN.out]; omega, q2, q3, H10⟩
        · have k1 : ¬ ((c : Int) < 128) := by omega
          by_cases c2 : c < 2048
          · have k2 : (c : Int) < 2048 := by omega
            have k3 : ¬ ((55296 : Int) ≤ (c : Int)) := by omega
            obtain ⟨m1, hm1⟩ : ∃ m1 : Nat, c / 64 = m1 := ⟨_, rfl⟩
            have am1 : (c : Int).tdiv 64 = (m1 : Int) := by rw [Int.tdiv_eq_ediv_of_nonneg (by omega)]; omega
            have bm1 : (c : Int) / 64 = (m1 : Int) := by omega
            have cm1 : IntKind.i64.wrap (m1 : Int) = m1 := by rw [IntKind.wrap_i64]; omega
            obtain ⟨n2, hn2⟩ : ∃ n2 : Nat, c % 64 = n2 := ⟨_, rfl⟩
            have an2 : (c : Int).tmod 64 = (n2 : Int) := by rw [Int.tmod_eq_emod_of_nonneg (by omega)]; omega
            have bn2 : (c : Int) % 64 = (n2 : Int) := by omega
            have cn2 : IntKind.i64.wrap (n2 : Int) = n2 := by rw [IntKind.wrap_i64]; omega
            obtain ⟨M1, hM1⟩ : ∃ M1 : Nat, 192 + m1 = M1 := ⟨_, rfl⟩
            have aM1 : IntKind.i64.wrap (192 + (m1 : Int)) = (M1 : Int) := by rw [IntKind.wrap_i64]; omega
            have bM1 : IntKind.u8.wrap (M1 : Int) = (M1 : Int) := by rw [IntKind.wrap_u8]; omega
            have cM1 : (UInt8.ofNat M1).toNat = M1 := UInt8.toNat_ofNat_of_lt' (by show _ < 256; omega)
            obtain ⟨M2, hM2⟩ : ∃ M2 : Nat, 128 + n2 = M2 := ⟨_, rfl⟩
            have aM2 : IntKind.i64.wrap (128 + (n2 : Int)) = (M2 : Int) := by rw [IntKind.wrap_i64]; omega
            have bM2 : IntKind.u8.wrap (M2 : Int) = (M2 : Int) := by rw [IntKind.wrap_u8]; omega
            have cM2 : (UInt8.ofNat M2).toNat = M2 := UInt8.toNat_ofNat_of_lt' (by show _ < 256; omega)
            have e : encL c = [UInt8.ofNat M1, UInt8.ofNat M2] := by unfold encL; rw [if_neg c1, if_pos c2, hm1, hn2, hM1, hM2]
            have hbc : Lib.byteCells (q ++ encL c) = Lib.byteCells q ++ [.int .u8 (M1 : Int), .int .u8 (M2 : Int)] := by rw [e]; simp [Lib.byteCells, cM1, cM2]
            clear hm1 hn2 hM1 hM2 c2 cM1 cM2
            have hln : (q ++ encL c).length = q.length + 2 := by rw [e]; simp
            have hml : q.length + 2 ≤ maxLen := by unfold maxLen; omega
            have hpl : (q.length + 2) * 1 ≤ 140737488355328 := by omega
            have HB := hideIt hbc
            have HN := hideIt hln
            clear e hbc hln hmt hcr c1
            go_wp2_with (first
              | (at_builtin; refine wpList_append_own (w := wr.alloc (.cells #[.int .u8 M1,.int .u8 M2] 5)) rfl _ _ 65 rfl w.heap.size 5 i0 (.int .u8 0) 1 1 Try.underlying65 hi hz0 hz1 hz2 rfl (by decide) _ _ _ rfl (hown.alloc _) ⟨wr.heap.size, 0, none⟩ 2 2 [.int .u8 M1,.int .u8 M2] rfl rfl (list_new _ _ [.int .u8 M1,.int .u8 M2]) (by simp [Value.oneCell']) hml hpl (by have := hb.size; simp; omega) ?_; intro v' w1 hown' hgrow _))
            have q3 : Below w.heap.size w w1 := (chainA hb _).grown hgrow (by have := hb.size; simp; omega) (fun k hk => (hown.lt k hk).1)
            have q2 : w1.ownsRow w.heap.size 5 1 v' (q ++ encL c).length (Lib.byteCells (q ++ encL c)) := by rw [HB.out, HN.out]; exact hown'
            go_roundg (l.length - (k + 1))
            case measure => have := HG.out; omega
            case rel => exact ⟨k + 1, q ++ encL c, by omega, rfl, by go_num, HT.out.symm, by rw [HN.out]; omega, q2, q3, H10⟩
          · have k2 : ¬ ((c : Int) < 2048) := by omega
            by_cases c3 : c < 65536
            · have k4 : (c : Int) < 65536 := by omega
              obtain ⟨m1, hm1⟩ : ∃ m1 : Nat, c / 4096 = m1 := ⟨_, rfl⟩
              have am1 : (c : Int).tdiv 4096 = (m1 : Int) := by rw [Int.tdiv_eq_ediv_of_nonneg (by omega)]; omega
              have bm1 : (c : Int) / 4096 = (m1 : Int) := by omega
              have cm1 : IntKind.i64.wrap (m1 : Int) = m1 := by rw [IntKind.wrap_i64]; omega
              obtain ⟨m2, hm2⟩ : ∃ m2 : Nat, c / 64 = m2 := ⟨_, rfl⟩
              have am2 : (c : Int).tdiv 64 = (m2 : Int) := by rw [Int.tdiv_eq_ediv_of_nonneg (by omega)]; omega
              have bm2 : (c : Int) / 64 = (m2 : Int) := by omega
              have cm2 : IntKind.i64.wrap (m2 : Int) = m2 := by rw [IntKind.wrap_i64]; omega
              obtain ⟨n2, hn2⟩ : ∃ n2 : Nat, m2 % 64 = n2 := ⟨_, rfl⟩
              have an2 : (m2 : Int).tmod 64 = (n2 : Int) := by rw [Int.tmod_eq_emod_of_nonneg (by omega)]; omega
              have bn2 : (m2 : Int) % 64 = (n2 : Int) := by omega
              have cn2 : IntKind.i64.wrap (n2 : Int) = n2 := by rw [IntKind.wrap_i64]; omega
              obtain ⟨n3, hn3⟩ : ∃ n3 : Nat, c % 64 = n3 := ⟨_, rfl⟩
              have an3 : (c : Int).tmod 64 = (n3 : Int) := by rw [Int.tmod_eq_emod_of_nonneg (by omega)]; omega
              have bn3 : (c : Int) % 64 = (n3 : Int) := by omega
              have cn3 : IntKind.i64.wrap (n3 : Int) = n3 := by rw [IntKind.wrap_i64]; omega
              obtain ⟨M1, hM1⟩ : ∃ M1 : Nat, 224 + m1 = M1 := ⟨_, rfl⟩
              have aM1 : IntKind.i64.wrap (224 + (m1 : Int)) = (M1 : Int) := by rw [IntKind.wrap_i64]; omega
              have bM1 : IntKind.u8.wrap (M1 : Int) = (M1 : Int) := by rw [IntKind.wrap_u8]; omega
              have cM1 : (UInt8.ofNat M1).toNat = M1 := UInt8.toNat_ofNat_of_lt' (by show _ < 256; omega)
              obtain ⟨M2, hM2⟩ : ∃ M2 : Nat, 128 + n2 = M2 := ⟨_, rfl⟩
              have aM2 : IntKind.i64.wrap (128 + (n2 : Int)) = (M2 : Int) := by rw [IntKind.wrap_i64]; omega
              have bM2 : IntKind.u8.wrap (M2 : Int) = (M2 : Int) := by rw [IntKind.wrap_u8]; omega
              have cM2 : (UInt8.ofNat M2).toNat = M2 := UInt8.toNat_ofNat_of_lt' (by show _ < 256; omega)
              obtain ⟨M3, hM3⟩ : ∃ M3 : Nat, 128 + n3 = M3 := ⟨_, rfl⟩
              have aM3 : IntKind.i64.wrap (128 + (n3 : Int)) = (M3 : Int) := by rw [IntKind.wrap_i64]; omega
              have bM3 : IntKind.u8.wrap (M3 : Int) = (M3 : Int) := by rw [IntKind.wrap_u8]; omega
              have cM3 : (UInt8.ofNat M3).toNat = M3 := UInt8.toNat_ofNat_of_lt' (by show _ < 256; omega)
              have e : encL c = [UInt8.ofNat M1, UInt8.ofNat M2, UInt8.ofNat M3] := by unfold encL; rw [if_neg c1, if_neg c2, if_pos c3, hm1, hm2, hn2, hn3, hM1, hM2, hM3]
              have hbc : Lib.byteCells (q ++ encL c) = Lib.byteCells q ++ [.int .u8 (M1 : Int), .int .u8 (M2 : Int), .int .u8 (M3 : Int)] := by rw [e]; simp [Lib.byteCells, cM1, cM2, cM3]
              clear hm1 hm2 hn2 hn3 hM1 hM2 hM3 c2 c3 cM1 cM2 cM3
              by_cases k5 : (55296 : Int) ≤ (c : Int)
              · have k6 : ¬ ((c : Int) < 57344) := by omega
                have hln : (q ++ encL c).length = q.length + 3 := by rw [e]; simp
                have hml : q.length + 3 ≤ maxLen := by unfold maxLen; omega
                have hpl : (q.length + 3) * 1 ≤ 140737488355328 := by omega
                have HB := hideIt hbc
                have HN := hideIt hln
                clear e hbc hln hmt hcr c1
                go_wp2_with (first
                  | (at_builtin; refine wpList_append_own (w := wr.alloc (.cells #[.int .u8 M1,.int .u8 M2,.int .u8 M3] 5)) rfl _ _ 65 rfl w.heap.size 5 i0 (.int .u8 0) 1 1 Try.underlying65 hi hz0 hz1 hz2 rfl (by decide) _ _ _ rfl (hown.alloc _) ⟨wr.heap.size, 0, none⟩ 3 3 [.int .u8 M1,.int .u8 M2,.int .u8 M3] rfl rfl (list_new _ _ [.int .u8 M1,.int .u8 M2,.int .u8 M3]) (by simp [Value.oneCell']) hml hpl (by have := hb.size; simp; omega) ?_; intro v' w1 hown' hgrow _))
                have q3 : Below w.heap.size w w1 := (chainA hb _).grown hgrow (by have := hb.size; simp; omega) (fun k hk => (hown.lt k hk).1)
                have q2 : w1.ownsRow w.heap.size 5 1 v' (q ++ encL c).length (Lib.byteCells (q ++ encL c)) := by rw [HB.out, HN.out]; exact hown'
                go_roundg (l.length - (k + 1))
                case measure => have := HG.out; omega
                case rel => exact ⟨k + 1, q ++ encL c, by omega, rfl, by go_num, HT.out.symm, by rw [HN.out]; omega, q2, q3, H10⟩
              · skip
                have hln : (q ++ encL c).length = q.length + 3 := by rw [e]; simp
                have hml : q.length + 3 ≤ maxLen := by unfold maxLen; omega
                have hpl : (q.length + 3) * 1 ≤ 140737488355328 := by omega
                have HB := hideIt hbc
                have HN := hideIt hln
                clear e hbc hln hmt hcr c1
                go_wp2_with (first
                  | (at_builtin; refine wpList_append_own (w := wr.alloc (.cells #[.int .u8 M1,.int .u8 M2,.int .u8 M3] 5)) rfl _ _ 65 rfl w.heap.size 5 i0 (.int .u8 0) 1 1 Try.underlying65 hi hz0 hz1 hz2 rfl (by decide) _ _ _ rfl (hown.alloc _) ⟨wr.heap.size, 0, none⟩ 3 3 [.int .u8 M1,.int .u8 M2,.int .u8 M3] rfl rfl (list_new _ _ [.int .u8 M1,.int .u8 M2,.int .u8 M3]) (by simp [Value.oneCell']) hml hpl (by have := hb.size; simp; omega) ?_; intro v' w1 hown' hgrow _))
                have q3 : Below w.heap.size w w1 := (chainA hb _).grown hgrow (by have := hb.size; simp; omega) (fun k hk => (hown.lt k hk).1)
                have q2 : w1.ownsRow w.heap.size 5 1 v' (q ++ encL c).length (Lib.byteCells (q ++ encL c)) := by rw [HB.out, HN.out]; exact hown'
                go_roundg (l.length - (k + 1))
                case measure => have := HG.out; omega
                case rel => exact ⟨k + 1, q ++ encL c, by omega, rfl, by go_num, HT.out.symm, by rw [HN.out]; omega, q2, q3, H10⟩
            · have k4 : ¬ ((c : Int) < 65536) := by omega
              have k5 : (55296 : Int) ≤ (c : Int) := by omega
              have k6 : ¬ ((c : Int) < 57344) := by omega
              obtain ⟨m0, hm0⟩ : ∃ m0 : Nat, c / 262144 = m0 := ⟨_, rfl⟩
              have am0 : (c : Int).tdiv 262144 = (m0 : Int) := by rw [Int.tdiv_eq_ediv_of_nonneg (by omega)]; omega
              have bm0 : (c : Int) / 262144 = (m0 : Int) := by omega
              have cm0 : IntKind.i64.wrap (m0 : Int) = m0 := by rw [IntKind.wrap_i64]; omega
              obtain ⟨m1, hm1⟩ : ∃ m1 : Nat, c / 4096 = m1 := ⟨_, rfl⟩
              have am1 : (c : Int).tdiv 4096 = (m1 : Int) := by rw [Int.tdiv_eq_ediv_of_nonneg (by omega)]; omega
              have bm1 : (c : Int) / 4096 = (m1 : Int) := by omega
              have cm1 : IntKind.i64.wrap (m1 : Int) = m1 := by rw [IntKind.wrap_i64]; omega
              obtain ⟨m2, hm2⟩ : ∃ m2 : Nat, c / 64 = m2 := ⟨_, rfl⟩
              have am2 : (c : Int).tdiv 64 = (m2 : Int) := by rw [Int.tdiv_eq_ediv_of_nonneg (by omega)]; omega
              have bm2 : (c : Int) / 64 = (m2 : Int) := by omega
              have cm2 : IntKind.i64.wrap (m2 : Int) = m2 := by rw [IntKind.wrap_i64]; omega
              obtain ⟨n1, hn1⟩ : ∃ n1 : Nat, m1 % 64 = n1 := ⟨_, rfl⟩
              have an1 : (m1 : Int).tmod 64 = (n1 : Int) := by rw [Int.tmod_eq_emod_of_nonneg (by omega)]; omega
              have bn1 : (m1 : Int) % 64 = (n1 : Int) := by omega
              have cn1 : IntKind.i64.wrap (n1 : Int) = n1 := by rw [IntKind.wrap_i64]; omega
              obtain ⟨n2, hn2⟩ : ∃ n2 : Nat, m2 % 64 = n2 := ⟨_, rfl⟩
              have an2 : (m2 : Int).tmod 64 = (n2 : Int) := by rw [Int.tmod_eq_emod_of_nonneg (by omega)]; omega
              have bn2 : (m2 : Int) % 64 = (n2 : Int) := by omega
              have cn2 : IntKind.i64.wrap (n2 : Int) = n2 := by rw [IntKind.wrap_i64]; omega
              obtain ⟨n3, hn3⟩ : ∃ n3 : Nat, c % 64 = n3 := ⟨_, rfl⟩
              have an3 : (c : Int).tmod 64 = (n3 : Int) := by rw [Int.tmod_eq_emod_of_nonneg (by omega)]; omega
              have bn3 : (c : Int) % 64 = (n3 : Int) := by omega
              have cn3 : IntKind.i64.wrap (n3 : Int) = n3 := by rw [IntKind.wrap_i64]; omega
              obtain ⟨M0, hM0⟩ : ∃ M0 : Nat, 240 + m0 = M0 := ⟨_, rfl⟩
              have aM0 : IntKind.i64.wrap (240 + (m0 : Int)) = (M0 : Int) := by rw [IntKind.wrap_i64]; omega
              have bM0 : IntKind.u8.wrap (M0 : Int) = (M0 : Int) := by rw [IntKind.wrap_u8]; omega
              have cM0 : (UInt8.ofNat M0).toNat = M0 := UInt8.toNat_ofNat_of_lt' (by show _ < 256; omega)
              obtain ⟨M1, hM1⟩ : ∃ M1 : Nat, 128 + n1 = M1 := ⟨_, rfl⟩
              have aM1 : IntKind.i64.wrap (128 + (n1 : Int)) = (M1 : Int) := by rw [IntKind.wrap_i64]; omega
              have bM1 : IntKind.u8.wrap (M1 : Int) = (M1 : Int) := by rw [IntKind.wrap_u8]; omega
              have cM1 : (UInt8.ofNat M1).toNat = M1 := UInt8.toNat_ofNat_of_lt' (by show _ < 256; omega)
              obtain ⟨M2, hM2⟩ : ∃ M2 : Nat, 128 + n2 = M2 := ⟨_, rfl⟩
              have aM2 : IntKind.i64.wrap (128 + (n2 : Int)) = (M2 : Int) := by rw [IntKind.wrap_i64]; omega
              have bM2 : IntKind.u8.wrap (M2 : Int) = (M2 : Int) := by rw [IntKind.wrap_u8]; omega
              have cM2 : (UInt8.ofNat M2).toNat = M2 := UInt8.toNat_ofNat_of_lt' (by show _ < 256; omega)
              obtain ⟨M3, hM3⟩ : ∃ M3 : Nat, 128 + n3 = M3 := ⟨_, rfl⟩
              have aM3 : IntKind.i64.wrap (128 + (n3 : Int)) = (M3 : Int) := by rw [IntKind.wrap_i64]; omega
              have bM3 : IntKind.u8.wrap (M3 : Int) = (M3 : Int) := by rw [IntKind.wrap_u8]; omega
              have cM3 : (UInt8.ofNat M3).toNat = M3 := UInt8.toNat_ofNat_of_lt' (by show _ < 256; omega)
              have e : encL c = [UInt8.ofNat M0, UInt8.ofNat M1, UInt8.ofNat M2, UInt8.ofNat M3] := by unfold encL; rw [if_neg c1, if_neg c2, if_neg c3, hm0, hm1, hm2, hn1, hn2, hn3, hM0, hM1, hM2, hM3]
              have hbc : Lib.byteCells (q ++ encL c) = Lib.byteCells q ++ [.int .u8 (M0 : Int), .int .u8 (M1 : Int), .int .u8 (M2 : Int), .int .u8 (M3 : Int)] := by rw [e]; simp [Lib.byteCells, cM0, cM1, cM2, cM3]
              clear hm0 hm1 hm2 hn1 hn2 hn3 hM0 hM1 hM2 hM3 c2 c3 cM0 cM1 cM2 cM3
              have hln : (q ++ encL c).length = q.length + 4 := by rw [e]; simp
              have hml : q.length + 4 ≤ maxLen := by unfold maxLen; omega
              have hpl : (q.length + 4) * 1 ≤ 140737488355328 := by omega
              have HB := hideIt hbc
              have HN := hideIt hln
              clear e hbc hln hmt hcr c1
              go_wp2_with (first
                | (at_builtin; refine wpList_append_own (w := wr.alloc (.cells #[.int .u8 M0,.int .u8 M1,.int .u8 M2,.int .u8 M3] 5)) rfl _ _ 65 rfl w.heap.size 5 i0 (.int .u8 0) 1 1 Try.underlying65 hi hz0 hz1 hz2 rfl (by decide) _ _ _ rfl (hown.alloc _) ⟨wr.heap.size, 0, none⟩ 4 4 [.int .u8 M0,.int .u8 M1,.int .u8 M2,.int .u8 M3] rfl rfl (list_new _ _ [.int .u8 M0,.int .u8 M1,.int .u8 M2,.int .u8 M3]) (by simp [Value.oneCell']) hml hpl (by have := hb.size; simp; omega) ?_; intro v' w1 hown' hgrow _))
              have q3 : Below w.heap.size w w1 := (chainA hb _).grown hgrow (by have := hb.size; simp; omega) (fun k hk => (hown.lt k hk).1)
              have q2 : w1.ownsRow w.heap.size 5 1 v' (q ++ encL c).length (Lib.byteCells (q ++ encL c)) := by rw [HB.out, HN.out]; exact hown'
              go_roundg (l.length - (k + 1))
              case measure => have := HG.out; omega
              case rel => exact ⟨k + 1, q ++ encL c, by omega, rfl, by go_num, HT.out.symm, by rw [HN.out]; omega, q2, q3, H10⟩
    · have e : k = l.length := by omega
      subst e
      rw [List.take_length] at hok hq
      have e : R = #[.string (bA (textZ l)), .int .i64 0] := by
        rw [← HR.out, if_pos hok.out]
      subst e
      clear HR
      have hcv := conv_own hown
      go_wp2
      go_ret2
      exact ⟨by rw [← hq.out]; rfl, hb⟩
end Go.Proofs.Ytpblnhphkikfaaa
