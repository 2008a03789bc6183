/-
  decimal.Grouped, walked: a number's text with a sign between each three digits.
-/
import Derived.Test.YtieieafjakcnpaaD2Text
import Derived.Deep.AppendLies
namespace Go.Proofs.Ytieieafjakcnpaa
set_option linter.unusedVariables false
set_option linter.unusedSimpArgs false
open Go.RowKit

/-- The first group's length. -/
def aheadN (m : Nat) : Nat := (m - 1) % 3 + 1
theorem ahead_any (b g o n c : Nat) (hn : 0 < n) (hm : n ≤ 39) (w : World) (hb : Box w b 47 #[.slice (some ⟨g, o, none⟩) n c]) :
    Calls Try.prog 30 #[.pointer (some ⟨b, 0, none⟩)] w fun e w' => e = .returned (.int .i64 (aheadN n : Nat)) ∧ w = w' := by
  have h0 := hb.read 0
  have s1 : IntKind.i64.wrap ((n : Int) - 1) = ((n - 1 : Nat) : Int) := by rw [show (n : Int) - 1 = ((n - 1 : Nat) : Int) by omega]; exact IntWalk.i64_in _ (by omega)
  have s2 : (((n - 1 : Nat) : Int).tmod 3) = (((n - 1) % 3 : Nat) : Int) := by rw [Int.tmod_eq_emod_of_nonneg (by omega)]; omega
  have s3 : IntKind.i64.wrap ((((n - 1) % 3 : Nat) : Int) + 1) = ((aheadN n : Nat) : Int) := by
    rw [show ((((n - 1) % 3 : Nat) : Int) + 1) = ((aheadN n : Nat) : Int) by unfold aheadN; omega]
    exact IntWalk.i64_in _ (by unfold aheadN; omega)
  go_enter Try.func30, Try.ntmps30
  go_wp2
  go_ret
  refine ⟨?_, rfl⟩
  show Ending.returned (.int .i64 (((n - 1 : Nat) : Int) % 3 + 1)) = _
  rw [show ((n - 1 : Nat) : Int) % 3 + 1 = ((aheadN n : Nat) : Int) by unfold aheadN; omega]

theorem info_u8 : (Try.prog.info? 5).map (fun i => (i.zero, i.size, i.bytes)) = some (some (.int .u8 0), 1, 1) := by kernel_rfl
theorem u8s_one (l : List UInt8) : ∀ u ∈ u8s l, u.oneCell' = true := by
  intro u hu
  simp only [u8s, List.mem_map] at hu
  obtain ⟨c, -, rfl⟩ := hu
  rfl
theorem u8s_length (l : List UInt8) : (u8s l).length = l.length := by simp [u8s]
theorem u8s_append (a b : List UInt8) : u8s (a ++ b) = u8s a ++ u8s b := by simp [u8s]
/-- Bytes that lie in a block, taken from a place on. -/
theorem Lies.at {w : World} {g o : Nat} {l : List UInt8} (h : Lies w g o l) (i n : Nat) {j : Nat} {u : Value} (hu : (u8s ((l.drop i).take n))[j]? = some u) : w.cell? ((⟨g, o + i, none⟩ : Addr).add j) = some u := by
  have hj : j < ((l.drop i).take n).length := by rw [← u8s_length]; exact (List.getElem?_eq_some_iff.1 hu).1
  rw [List.length_take, List.length_drop] at hj
  have hadd : (⟨g, o + i, none⟩ : Addr).add j = ⟨g, o + (i + j), none⟩ := by unfold Addr.add; split <;> simp_all [Nat.add_assoc]
  rw [hadd, h (i + j) (by omega), ← hu]
  simp only [u8s, List.getElem?_map, List.getD_eq_getElem?_getD]
  rw [List.getElem?_take_of_lt (by omega), List.getElem?_drop, List.getElem?_eq_getElem (by omega)]
  rfl
theorem Lies.call {w w' : World} {g o B : Nat} {l : List UInt8} (h : Lies w g o l) (hb : Below B w w') (hg : g < B) : Lies w' g o l := fun i hi => (hb.cell (p := ⟨g, o + i, none⟩) hg).trans (h i hi)

set_option maxRecDepth 100000 in
set_option maxHeartbeats 8000000 in
theorem grouped_any (ah al : Int) (a1 : Word ah) (a0 : Word al) (w : World) :
    Calls Try.prog 13 #[.agg #[.int .u64 ah, .int .u64 al]] w (Tells (.string (str (grp (decL (nv ah al).toNat)))) w.heap.size w) := by
  obtain ⟨i0, hi, hz0, hz1, hz2⟩ := info_parts info_u8
  have L0 : Below w.heap.size w (w.alloc (.cells #[.int .u64 ah, .int .u64 al] 24)) := by repeat (first | exact Below.refl _ _ | apply Below.drew | apply below_drewN | refine Below.alloc ?_ (by simp; try omega) _ | refine Below.setCell ?_ (by simp; try omega) _)
  have cD := fun u : World => ddigits_any ah al a1 a0 u
  have h39 := decL_39 (n := (nv ah al).toNat) (by have := nv_word a1 a0; omega)
  have hpos := decL_pos (nv ah al).toNat
  obtain ⟨l, hl⟩ : ∃ l, decL (nv ah al).toNat = l := ⟨_, rfl⟩
  rw [hl] at cD h39 hpos ⊢
  obtain ⟨T, hT⟩ : ∃ T, grp l = T := ⟨_, rfl⟩
  rw [hT]
  have HT := hideIt hT
  clear hl hT
  go_enter Try.func13, Try.ntmps13
  go_upto_region 2 with (first
    | (go_at_call 28; refine (cD _).mono ?_; rintro e w1 ⟨g, o, rfl, h1, h2, h3, h4⟩))
  have X1 := Box.made w1 47 #[.slice (some ⟨g, o, none⟩) l.length l.length]
  have Z1 : Lies (w1.alloc (.cells #[.slice (some ⟨g, o, none⟩) l.length l.length] 47)) g o l := h3.call ((Below.refl _ w1).alloc (Nat.le_refl _) _) h2
  have L1 := chainA (chain L0 h4) (.cells #[.slice (some ⟨g, o, none⟩) l.length l.length] 47)
  have hsW : (w1.alloc (.cells #[.slice (some ⟨g, o, none⟩) l.length l.length] 47)).heap.size = w1.heap.size + 1 := by simp
  have hwb : w.heap.size < w1.heap.size := by have := h4.size; simp at this; omega
  generalize w1.alloc (.cells #[.slice (some ⟨g, o, none⟩) l.length l.length] 47) = W at *
  obtain ⟨b, eb⟩ : ∃ b, w1.heap.size = b := ⟨_, rfl⟩
  rw [eb] at X1 hsW hwb h2 ⊢
  clear h1 h3 h4 L0 cD eb
  have hmf : ∀ (fn : Fn) (first cap : Array Value) (w : World), (Instr.makeFunc fn first cap).run Try.prog w = .ok (.func fn first cap) w := fun _ _ _ _ => rfl
  go_wp2_with (first
    | (go_at_call 30; refine (ahead_any b g o l.length l.length hpos h39 _ X1).mono ?_; rintro e w2 ⟨rfl, rfl⟩))
  go_loopg [5, 6] l.length (fun gk v n wr => ∃ (i : Nat) (S : List UInt8), i < l.length ∧ gk = l.length - i ∧ n = .int .i64 (aheadN (l.length - i) : Nat) ∧ S ++ grp (l.drop i) = T ∧ S.length ≤ 2 * i ∧
    wr.ownsRow (b + 1) 5 1 v S.length (u8s S) ∧ Box wr b 47 #[.slice (some ⟨g, o + i, none⟩) (l.length - i) (l.length - i)] ∧ Lies wr g o l ∧ Below w.heap.size w wr)
  case atStart => exact ⟨0, [], hpos, rfl, rfl, by simpa using HT.out, by simp, ⟨rfl, .inl ⟨rfl, rfl⟩⟩, by simpa using X1, Z1, L1⟩
  case round =>
    obtain ⟨i, S, hi2, hgk, rfl, hS, hSl, hown, hbx, hl, hbel⟩ := hrel
    have HG := hideIt hgk
    have HS := hideIt hS
    clear hgk hS HT X1 Z1 L1
    obtain ⟨r, hr⟩ : ∃ r, l.length - i = r := ⟨_, rfl⟩
    obtain ⟨m, hm⟩ : ∃ m, aheadN r = m := ⟨_, rfl⟩
    rw [hr] at hbx ⊢
    rw [hm]
    have hr39 : r ≤ 39 := by omega
    have hm1 : 1 ≤ m := by rw [← hm]; unfold aheadN; omega
    have hm3 : m ≤ 3 := by rw [← hm]; unfold aheadN; omega
    have hrl : (l.drop i).length = r := by rw [List.length_drop, hr]
    have c0 := hbx.read 0
    have c1 := hbx.free 0
    have c2 := hbx.inside
    have hsz := hbel.size
    by_cases hlt : m < r
    · have hgs : grp (l.drop i) = (l.drop i).take m ++ 95 :: grp (l.drop (i + m)) := by
        have h := grp_step (l := l.drop i) (by rw [hrl]; unfold aheadN at hm; omega)
        rw [hrl, show (r - 1) % 3 + 1 = m from hm, List.drop_drop] at h
        exact h
      have HGS := hideIt hgs
      have HR := hideIt hr
      have HM := hideIt hm
      have HRL := hideIt hrl
      have k0 : (0 : Int) ≤ (m : Int) := by omega
      have k1 : (m : Int) < (r : Int) := by omega
      have k2 : (m : Int) ≤ (r : Int) := by omega
      have hnews : (u8s ((l.drop i).take m)).length = m := by rw [u8s_length, List.length_take, hrl]; omega
      have hcell : ∀ j u, (u8s ((l.drop i).take m))[j]? = some u → wr.cell? ((⟨g, o + i, none⟩ : Addr).add j) = some u := fun j u hu => hl.at i m hu
      clear hgs hr hm hrl
      go_upto_region 8 with (first
        | (at_builtin; refine wpList_append_own (w := wr) rfl _ _ 47 rfl (b + 1) 5 i0 _ 1 1 Try.underlying47 hi hz0 hz1 hz2 rfl (by decide) _ S.length (u8s S) rfl hown ⟨g, o + i, none⟩ m r (u8s ((l.drop i).take m)) rfl (by rw [hnews]; omega) hcell (u8s_one _) (by unfold maxLen; omega) (by omega) (by omega) ?_))
      intro v1 w2 hown1 hg1 _
      have hB1 : Below (b + 1) wr w2 := (Below.refl (b + 1) wr).grown hg1 (by omega) (fun k hk => (hown.lt k hk).1)
      have hbx1 := hbx.below hB1 (by omega)
      have hl1 := hl.call hB1 (by omega)
      have hbel1 := hbel.trans (hB1.mono (by omega))
      rw [← u8s_append] at hown1
      have hs2 := hB1.size
      have d2 := hbx1.inside
      clear hcell hnews c0 c1 c2 hg1 hbx hl hbel
      go_upto_region 9 with (first
        | (at_builtin; refine wp_append_new rfl _ _ 47 rfl (b + 1) 5 i0 (.int .u8 0) 1 Try.underlying47 hi hz0 hz1 hz2 rfl _ _ _ rfl hown1 #[.int .u8 95] rfl (by simp [Value.oneCell']) (by simp; omega) (by omega) (by omega) ?_))
      intro v2 w3 hown2 hb2 hk2
      have hB2 := hb2 (b + 1) (Nat.le_refl _)
      have hbx2 := hbx1.below hB2 (by omega)
      have hl2 := hl1.call hB2 (by omega)
      have hbel2 := hbel1.trans (hB2.mono (by omega))
      have hs3 := hB2.size
      have c0 := hbx2.read 0
      have c1 := hbx2.free 0
      have c2 := hbx2.inside
      clear hb2 hk2 hbx1 hl1 hbel1 hown hown1
      have hbx3 := hbx2.wrote 0 (.slice (some ⟨g, o + i + m, none⟩) (r - m) (r - m))
      have hcs : (#[(.slice (some ⟨g, o + i, none⟩) r r : Value)]).setIfInBounds 0 (.slice (some ⟨g, o + i + m, none⟩) (r - m) (r - m)) = #[.slice (some ⟨g, o + i + m, none⟩) (r - m) (r - m)] := rfl
      rw [hcs] at hbx3
      go_wp2_with (first
        | (go_at_call 30; refine (ahead_any b g (o + i + m) (r - m) (r - m) (by omega) (by omega) _ hbx3).mono ?_; rintro e w4 ⟨rfl, rfl⟩))
      have hrm : l.length - (i + m) = r - m := by have := HR.out; omega
      have hS2 : (S ++ (l.drop i).take m ++ [95]) ++ grp (l.drop (i + m)) = T := by
        rw [← HS.out, HGS.out]; simp
      have hlen : (S ++ (l.drop i).take m ++ [95]).length = S.length + m + 1 := by
        rw [List.length_append, List.length_append, List.length_take, HRL.out, Nat.min_eq_left (by omega)]; rfl
      go_roundg (r - m)
      case measure => have := HG.out; have := HR.out; omega
      case rel =>
        refine ⟨i + m, S ++ (l.drop i).take m ++ [95], by have := HR.out; omega, hrm.symm, by rw [hrm], hS2, by rw [hlen]; omega, ?_, ?_, ?_, ?_⟩
        · rw [hlen, u8s_append _ [95]]
          exact own_apart hown2 (fun hx => by have h2 := (hown2.lt _ hx).1; simp at h2; omega) _
        · rw [hrm, ← Nat.add_assoc]
          exact hbx3
        · exact fun j hj => (Below.cell ((Below.refl b w3).setCell (by simp) _) (p := ⟨g, o + j, none⟩) h2).trans (hl2 j hj)
        · exact hbel2.setCell (by simp; omega) _
    · have hgs : grp (l.drop i) = l.drop i := grp_short (by rw [hrl]; unfold aheadN at hm; omega)
      rw [hgs] at HS
      have HR := hideIt hr
      have HRL := hideIt hrl
      have k0 : (0 : Int) ≤ (m : Int) := by omega
      have k1 : ¬ (m : Int) < (r : Int) := by omega
      have hnews : (u8s (l.drop i)).length = r := by rw [u8s_length, hrl]
      have htk : (l.drop i).take r = l.drop i := List.take_of_length_le (by rw [hrl]; exact Nat.le_refl _)
      have hcell : ∀ j u, (u8s (l.drop i))[j]? = some u → wr.cell? ((⟨g, o + i, none⟩ : Addr).add j) = some u := fun j u hu => hl.at i r (by rw [htk]; exact hu)
      have hr0 : 0 < r := by omega
      clear hgs hr hm hrl htk
      go_upto_region 10 with fail
      go_wp2_with (first
        | (at_builtin; refine wpList_append_own (w := wr) rfl _ _ 47 rfl (b + 1) 5 i0 _ 1 1 Try.underlying47 hi hz0 hz1 hz2 rfl (by decide) _ S.length (u8s S) rfl hown ⟨g, o + i, none⟩ r r (u8s (l.drop i)) rfl (by rw [hnews]; omega) hcell (u8s_one _) (by unfold maxLen; omega) (by omega) (by omega) ?_))
      intro v1 w2 hown1 hg1 _
      have hB1 : Below (b + 1) wr w2 := (Below.refl (b + 1) wr).grown hg1 (by omega) (fun k hk => (hown.lt k hk).1)
      have hbel1 := hbel.trans (hB1.mono (by omega))
      rw [← u8s_append, HS.out] at hown1
      have hTl : T.length = S.length + r := by rw [← HS.out, List.length_append, HRL.out]
      obtain ⟨g2, c2, rfl, q1, q2, q3, q4, q5, q6⟩ := own_row hown1 (by omega)
      have hlies : Lies w2 g2 0 T := fun j hj => by
        rw [Nat.zero_add, q5 j (.int .u8 (T[j].toNat : Int)) (by simp [u8s, hj])]
        simp [List.getD, hj]
      have hconv := conv_lies hlies c2
      rw [hTl] at hconv
      clear hlies q5 q6 hcell hown1
      go_wp2
      go_ret
      exact ⟨rfl, hbel1⟩
end Go.Proofs.Ytieieafjakcnpaa
