/-
  paymasterref02.Grouped, walked: byte by byte, with a sign ahead of each three that are left.
-/
import Derived.Test.YtieieafjakcnpaaR2Text
import Derived.Laws.Concat
import Derived.LoopTactic
import Derived.Deep.LoopGhost
import Derived.Deep.CutRange
namespace Go.Proofs.Ytieieafjakcnpaa
set_option linter.unusedVariables false
set_option linter.unusedSimpArgs false
open Go.RowKit

theorem byte_of {s : ByteArray} {i : Nat} (h : i < s.size) : s.extract i (i + 1) = str [s[i]] := by
  apply ByteArray.ext
  apply Array.ext'
  rw [ByteArray.data_extract, Array.toList_extract]
  show (s.data.toList.extract i (i + 1)) = [s.data[i]]
  rw [List.extract_eq_take_drop, show i + 1 - i = 1 by omega, List.drop_eq_getElem_cons (by simpa using h)]
  rfl
theorem grpR_size : ∀ l : List UInt8, (grpR l).length ≤ 2 * l.length
  | [] => by simp [grpR]
  | c :: r => by
    have := grpR_size r
    rw [grpR]
    split <;> simp <;> omega
theorem grp_size {l : List UInt8} (h : l.length ≤ 39) : (grp l).length ≤ 200 := by
  cases l with
  | nil => simp [grp]
  | cons c r =>
    have := grpR_size r
    simp [grp] at h ⊢
    omega
/-- What is still to be told from place i on. -/
def restG (i : Nat) (r : List UInt8) : List UInt8 := if i = 0 then grp r else grpR r

set_option maxRecDepth 100000 in
set_option maxHeartbeats 8000000 in
theorem rgrouped_any (ah al : Int) (a1 : Word ah) (a0 : Word al) (w : World) :
    Calls Try.prog 14 #[.agg #[.int .u64 ah, .int .u64 al]] w (Tells (.string (str (grp (decL (nv ah al).toNat)))) w.heap.size w) := by
  have L0 : Below w.heap.size w (w.alloc (.cells #[.int .u64 ah, .int .u64 al] 24)) := by repeat (first | exact Below.refl _ _ | apply Below.drew | apply below_drewN | refine Below.alloc ?_ (by simp; try omega) _ | refine Below.setCell ?_ (by simp; try omega) _)
  have cT := fun u : World => rtext_any ah al a1 a0 u
  have h39 := decL_39 (n := (nv ah al).toNat) (by have := nv_word a1 a0; omega)
  obtain ⟨l, hl⟩ : ∃ l, decL (nv ah al).toNat = l := ⟨_, rfl⟩
  rw [hl] at cT h39 ⊢
  have hgl := grp_size h39
  obtain ⟨T, hT⟩ : ∃ T, grp l = T := ⟨_, rfl⟩
  obtain ⟨s, hs⟩ : ∃ s, str l = s := ⟨_, rfl⟩
  have hsz : s.size = l.length := by rw [← hs, str_size]
  have hst : s.data.toList = l := by rw [← hs]; rfl
  rw [hT] at hgl ⊢
  rw [hs] at cT
  have HT := hideIt hT
  have HST := hideIt hst
  have HSZ := hideIt hsz
  clear hl hT hs hst hsz
  go_enter Try.func14, Try.ntmps14
  go_upto_region 2 with (first
    | (go_at_call 12; refine (cT _).mono ?_; rintro e w1 ⟨rfl, h1⟩))
  have L1 := chain L0 h1
  go_wp2_with fail
  go_loopg [4, 5] l.length (fun gk ov i wr => ∃ (k : Nat) (out : List UInt8), k ≤ l.length ∧ gk = l.length - k ∧ ov = .string (str out) ∧ i = .int .i64 (k : Int) ∧ out ++ restG k (l.drop k) = T ∧ wr = w1)
  case atStart => exact ⟨0, [], Nat.zero_le _, rfl, rfl, rfl, HT.out, rfl⟩
  case round =>
    obtain ⟨k, out, hk, hgk, rfl, rfl, hout, rfl⟩ := hrel
    have HG := hideIt hgk
    clear hgk
    have hszi : s.size = l.length := HSZ.out
    have hol : out.length ≤ 200 := by rw [← hout] at hgl; simp at hgl; omega
    by_cases hlt : k < l.length
    · have hdrop : l.drop k = l[k] :: l.drop (k + 1) := List.drop_eq_getElem_cons hlt
      obtain ⟨c, hc⟩ : ∃ c, l[k] = c := ⟨_, rfl⟩
      have hsi : k < s.size := by omega
      have hcs : s[k] = c := by
        have h1 : s.data.toList[k]'(by simpa using hsi) = c := by
          rw [← hc]; congr 1
        exact h1
      have hex := byte_of hsi
      rw [hcs] at hex
      have hdl : (l.drop (k + 1)).length + 1 = l.length - k := by rw [List.length_drop]; omega
      have i0 : (0 : Int) ≤ (k : Int) := by omega
      have i1 : (k : Int) < (s.size : Int) := by omega
      have i2 : (k : Int) + 1 ≤ (s.size : Int) := by omega
      have v1 : IntKind.i64.wrap ((k : Int) + 1) = (k : Int) + 1 := IntWalk.i64_in _ (by omega)
      have v2 : IntKind.i64.wrap ((s.size : Int) - (k : Int)) = ((l.length - k : Nat) : Int) := by
        rw [show (s.size : Int) - (k : Int) = ((l.length - k : Nat) : Int) by omega]; exact IntWalk.i64_in _ (by omega)
      have HIT := hideIt (show k + 1 ≤ l.length from hlt)
      rw [hdrop, hc] at hout
      obtain ⟨m, hm⟩ : ∃ m, l.length - k = m := ⟨_, rfl⟩
      rw [hm] at v2 hdl
      have v3 : ((m : Int).tmod 3) = ((m % 3 : Nat) : Int) := by rw [Int.tmod_eq_emod_of_nonneg (by omega)]; omega
      by_cases hsg : 0 < k ∧ m % 3 = 0
      · obtain ⟨g1, g2⟩ := hsg
        have hout2 : (out ++ [95] ++ [c]) ++ restG (k + 1) (l.drop (k + 1)) = T := by
          rw [← hout]
          unfold restG
          rw [if_neg (by omega), if_neg (by omega), grpR, if_pos (by omega)]
          simp
        have hcat1 : ∀ u : World, (Op.stringOp .add (str out) ⟨#[95]⟩).run Try.prog u = .ok (.string (str out ++ ⟨#[95]⟩)) u := fun u => run_string_add_sum u _ _ (by rw [str_size]; show out.length + 1 ≤ _; omega)
        rw [show (⟨#[95]⟩ : ByteArray) = str [95] from rfl, ← str_append] at hcat1
        have hcat1' : ∀ u : World, (Op.stringOp .add (str out) ⟨#[95]⟩).run Try.prog u = .ok (.string (str (out ++ [95]))) u := hcat1
        have hcat2 : ∀ u : World, (Op.stringOp .add (str (out ++ [95])) (s.extract k (k + 1))).run Try.prog u = .ok (.string (str (out ++ [95]) ++ s.extract k (k + 1))) u := fun u => run_string_add_sum u _ _ (by rw [hex, str_size, str_size]; simp; omega)
        rw [hex, ← str_append] at hcat2
        have HO := hideIt hout2
        have g1' : (0 : Int) < (k : Int) := by omega
        have g2' : ((m % 3 : Nat) : Int) = 0 := by omega
        clear hcat1 hout hout2 hdrop hc hdl hszi hm hlt hk g1 hgl hol h39
        go_wp2
        go_roundg (l.length - (k + 1))
        case measure => have := HG.out; have := HIT.out; omega
        case rel => exact ⟨k + 1, out ++ [95] ++ [c], HIT.out, rfl, by simp, by go_num, HO.out, rfl⟩
      · have hout2 : (out ++ [c]) ++ restG (k + 1) (l.drop (k + 1)) = T := by
          rw [← hout]
          unfold restG
          rw [if_neg (by omega)]
          by_cases h0 : k = 0
          · rw [if_pos h0, grp]; simp
          · rw [if_neg h0, grpR, if_neg (by omega)]; simp
        have hcat2 : ∀ u : World, (Op.stringOp .add (str out) (s.extract k (k + 1))).run Try.prog u = .ok (.string (str out ++ s.extract k (k + 1))) u := fun u => run_string_add_sum u _ _ (by rw [hex, str_size, str_size]; simp; omega)
        rw [hex, ← str_append] at hcat2
        have HO := hideIt hout2
        by_cases h0 : k = 0
        · subst h0
          clear hout hout2 hdrop hc hdl hszi hm hlt hk hsg hgl hol h39
          go_wp2
          go_roundg (l.length - (0 + 1))
          case measure => have := HG.out; have := HIT.out; omega
          case rel => exact ⟨0 + 1, out ++ [c], HIT.out, rfl, rfl, by go_num, HO.out, rfl⟩
        · have g1' : (0 : Int) < (k : Int) := by omega
          have g2' : ((m : Int) % 3 == 0) = false := by rw [beq_eq_false_iff_ne]; omega
          have g3' : (((m % 3 : Nat) : Int) == 0) = false := by rw [beq_eq_false_iff_ne]; omega
          clear hout hout2 hdrop hc hdl hszi hm hlt hk hsg hgl hol h39 h0
          go_wp2
          go_roundg (l.length - (k + 1))
          case measure => have := HG.out; have := HIT.out; omega
          case rel => exact ⟨k + 1, out ++ [c], HIT.out, rfl, rfl, by go_num, HO.out, rfl⟩
    · have e : k = l.length := by omega
      have hT2 : out = T := by
        rw [← hout, e, List.drop_length]
        unfold restG
        split <;> simp [grp, grpR]
      subst hT2
      have i1 : ¬ ((k : Int) < (s.size : Int)) := by omega
      clear hout hlt hszi hol hgl hk e h39
      go_wp2
      go_ret
      exact ⟨rfl, L1⟩
end Go.Proofs.Ytieieafjakcnpaa
