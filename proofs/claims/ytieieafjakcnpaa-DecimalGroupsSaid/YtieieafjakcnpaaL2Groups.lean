/-
  The law of layer 2 on groups: without its signs a grouped text is the text; between two signs, and behind the last one, there are three digits, ahead of the first one from one to three; any number, no condition.
-/
import Derived.Test.YtieieafjakcnpaaL2Back
import Derived.Deep.RegionHeld3
import Derived.Deep.CutRange
import Derived.Laws.Concat
namespace Go.Proofs.Ytieieafjakcnpaa
set_option linter.unusedVariables false
set_option linter.unusedSimpArgs false
open Go.ChangeShapes Go.WideShapes Go.ChangeAt Go.RowKit

/-- What the law's loop keeps: the digits seen, how many since the last sign, whether there was none. -/
structure Seen where
  bare : List UInt8
  run : Nat
  first : Bool
def seen : List UInt8 → Seen → Option Seen
  | [], s => some s
  | c :: r, s => if c = 95 then (if s.run < 1 ∨ 3 < s.run ∨ (s.first = false ∧ s.run ≠ 3) then none else seen r ⟨s.bare, 0, false⟩) else seen r ⟨s.bare ++ [c], s.run + 1, s.first⟩
theorem seen_digits : ∀ (d : List UInt8) (r : List UInt8) (s : Seen), (∀ c ∈ d, c ≠ 95) → seen (d ++ r) s = seen r ⟨s.bare ++ d, s.run + d.length, s.first⟩
  | [], r, s, _ => by simp
  | c :: d, r, s, h => by
    have hc : c ≠ 95 := h c (by simp)
    rw [List.cons_append, seen, if_neg hc, seen_digits d r _ (fun x hx => h x (by simp [hx]))]
    simp only [List.append_assoc, List.singleton_append, List.length_cons]
    congr 2
    omega
/-- A grouped text is seen whole: its digits, three behind the last sign. -/
theorem seen_grp : ∀ (m : Nat) (l : List UInt8) (b : List UInt8) (f : Bool), l.length = m → 0 < m → (∀ c ∈ l, c ≠ 95) → (f = false → m % 3 = 0) →
    ∃ run f', seen (grp l) ⟨b, 0, f⟩ = some ⟨b ++ l, run, f'⟩ ∧ (run = 3 ∨ (f' = true ∧ 1 ≤ run ∧ run ≤ 3)) := by
  intro m
  induction m using Nat.strongRecOn with
  | ind m ih =>
    intro l b f hl hm hd hf
    rcases Nat.lt_or_ge ((l.length - 1) % 3 + 1) l.length with h | h
    · rw [grp_step h, seen_digits _ _ _ (fun c hc => hd c (List.mem_of_mem_take hc))]
      obtain ⟨n, hn⟩ : ∃ n, (l.length - 1) % 3 + 1 = n := ⟨_, rfl⟩
      rw [hn] at h ⊢
      have hlt : (l.take n).length = n := by rw [List.length_take]; omega
      simp only [seen, if_true, hlt, Nat.zero_add]
      rw [if_neg (by
        rintro (h1 | h1 | ⟨h1, h2⟩)
        · omega
        · omega
        · have := hf h1; omega)]
      obtain ⟨run, f', e, hr⟩ := ih (l.drop n).length (by rw [List.length_drop]; omega) (l.drop n) (b ++ l.take n) false rfl (by rw [List.length_drop]; omega) (fun c hc => hd c (List.mem_of_mem_drop hc)) (fun _ => by rw [List.length_drop]; omega)
      refine ⟨run, f', ?_, hr⟩
      rw [e, List.append_assoc, List.take_append_drop]
    · have h3 : l.length ≤ 3 := by omega
      rw [grp_short h3]
      have := seen_digits l [] ⟨b, 0, f⟩ hd
      rw [List.append_nil] at this
      rw [this]
      refine ⟨0 + l.length, f, rfl, ?_⟩
      cases f
      · have := hf rfl; left; omega
      · right; exact ⟨rfl, by omega, by omega⟩

theorem grpR_len : ∀ l : List UInt8, (grpR l).length ≤ 2 * l.length
  | [] => by simp [grpR]
  | c :: r => by
    have := grpR_len r
    rw [grpR]
    split <;> simp <;> omega
theorem grp_len {l : List UInt8} (h : l.length ≤ 39) : (grp l).length ≤ 200 := by
  cases l with
  | nil => simp [grp]
  | cons c r =>
    have := grpR_len r
    simp [grp] at h ⊢
    omega

theorem one_of {s : ByteArray} {i : Nat} (h : i < s.size) : s.extract i (i + 1) = str [s[i]] := by
  apply ByteArray.ext
  apply Array.ext'
  rw [ByteArray.data_extract, Array.toList_extract]
  show (s.data.toList.extract i (i + 1)) = [s.data[i]]
  rw [List.extract_eq_take_drop, show i + 1 - i = 1 by omega, List.drop_eq_getElem_cons (by simpa using h)]
  rfl

set_option maxRecDepth 100000 in
set_option maxHeartbeats 16000000 in
theorem groups_walk (ah al : Int) (a1 : Word ah) (a0 : Word al) (w : World) :
    Calls Try.prog 8 #[.agg #[.int .u64 ah, .int .u64 al]] w (Tells (.bool true) w.heap.size w) := by
  have P0 : OneIn w ah al (w.alloc (.cells #[.int .u64 ah, .int .u64 al] 24)) := ⟨Box.made w 24 #[.int .u64 ah, .int .u64 al], by repeat (first | exact Below.refl _ _ | apply Below.drew | apply below_drewN | refine Below.alloc ?_ (by simp; try omega) _ | refine Below.setCell ?_ (by simp; try omega) _)⟩
  have cG := fun u : World => grouped_any ah al a1 a0 u
  have cT := fun u : World => text_any ah al a1 a0 u
  obtain ⟨N, hN⟩ : ∃ N, (nv ah al).toNat = N := ⟨_, rfl⟩
  have h39 : (decL N).length ≤ 39 := decL_39 (by have := nv_word a1 a0; omega)
  rw [hN] at cG cT
  obtain ⟨run, f', hseen, hrun⟩ := seen_grp _ (decL N) [] true rfl (decL_pos N) (fun c hc e => by have := decL_isD N c hc; unfold IsD at this; subst e; exact absurd this.2 (by decide)) (fun h => by cases h)
  rw [List.nil_append] at hseen
  have hgl : (grp (decL N)).length ≤ 200 := grp_len (by omega)
  obtain ⟨l, hl⟩ : ∃ l, decL N = l := ⟨_, rfl⟩
  rw [hl] at hseen cG cT hgl h39
  obtain ⟨s, hs⟩ : ∃ s, str (grp l) = s := ⟨_, rfl⟩
  obtain ⟨t, ht⟩ : ∃ t, grp l = t := ⟨_, rfl⟩
  have hst : s.data.toList = t := by rw [← hs, ← ht]; rfl
  rw [hs] at cG
  rw [ht] at hseen hgl
  have hsz : s.size = t.length := by rw [← hs, ← ht, str_size]
  have HSEEN := hideIt hseen
  have HST := hideIt hst
  have hsz' : s.size ≤ 200 := by omega
  have HSZ := hideIt hsz
  clear hseen hst hs ht hl hN hsz hgl
  go_enter Try.func8, Try.ntmps8
  go_upto_region 4 with (first
    | (go_at_call 20; refine (dawake_any _).mono ?_; rintro e w1 ⟨rfl, h1⟩
       have P1 := P0.call h1
       obtain ⟨p1, p2, p3⟩ := P1.1.num)
    | (go_at_call 13; refine (cG _).mono ?_; rintro e w2 ⟨rfl, h2⟩))
  have P2 := P1.call h2
  clear p1 p2 p3 P0 P1 h1 h2 cG
  go_wp2_with fail
  go_loopg [4, 5, 6, 7] t.length (fun gk b4 r5 f6 i7 wr => ∃ (i : Nat) (st : Seen), i ≤ t.length ∧ gk = t.length - i ∧ b4 = .string (str st.bare) ∧ r5 = .int .i64 (st.run : Int) ∧ f6 = .bool st.first ∧ i7 = .int .i64 (i : Int) ∧
    seen (t.drop i) st = some ⟨l, run, f'⟩ ∧ st.bare.length ≤ i ∧ st.run ≤ i ∧ OneIn w ah al wr)
  case atStart => exact ⟨0, ⟨[], 0, true⟩, Nat.zero_le _, rfl, rfl, rfl, rfl, rfl, HSEEN.out, by simp, by simp, P2⟩
  case round =>
    obtain ⟨i, ⟨bare, rn, fs⟩, hi, hgk, rfl, rfl, rfl, rfl, hsn, hbl, hrl, P3⟩ := hrel
    simp only at hbl hrl hsn ⊢
    have HG := hideIt hgk
    clear hgk P2 HSEEN
    obtain ⟨p1, p2, p3⟩ := P3.1.num
    have hszi : s.size = t.length := HSZ.out
    by_cases hlt : i < t.length
    · have hdrop : t.drop i = t[i] :: t.drop (i + 1) := List.drop_eq_getElem_cons hlt
      obtain ⟨c, hc⟩ : ∃ c, t[i] = c := ⟨_, rfl⟩
      rw [hdrop, hc, seen] at hsn
      have hsi : i < s.size := by omega
      have hcs : s[i] = c := by
        have h1 : s.data.toList[i]'(by simpa using hsi) = c := by
          rw [← hc]; congr 1
        exact h1
      by_cases h95 : c = 95
      · rw [if_pos h95] at hsn
        have hgood : ¬ (rn < 1 ∨ 3 < rn ∨ (fs = false ∧ rn ≠ 3)) := fun h => by rw [if_pos h] at hsn; cases hsn
        rw [if_neg hgood] at hsn
        have HSN := hideIt hsn
        subst h95
        clear hsn hdrop hc
        have i0 : (0 : Int) ≤ (i : Int) := by omega
        have i1 : (i : Int) < (s.size : Int) := by omega
        have v1 : IntKind.i64.wrap ((i : Int) + 1) = (i : Int) + 1 := IntWalk.i64_in _ (by omega)
        have r1 : ¬ ((rn : Int) < 1) := by omega
        have r3 : ¬ ((3 : Int) < (rn : Int)) := by omega
        have HIT := hideIt (show i + 1 ≤ t.length from hlt)
        clear hszi hlt hrl
        cases fs
        · have r4 : (rn : Int) = 3 := by
            have : rn = 3 := by
              rcases Nat.decEq rn 3 with h | h
              · exact absurd (.inr (.inr ⟨rfl, h⟩)) hgood
              · exact h
            omega
          clear hgood
          go_wp2
          go_roundg (t.length - (i + 1))
          case measure => have := HG.out; have := HIT.out; omega
          case rel => exact ⟨i + 1, ⟨bare, 0, false⟩, HIT.out, rfl, rfl, rfl, rfl, by go_num, HSN.out, by simp only; omega, by simp only; omega, P3⟩
        · clear hgood
          go_wp2
          go_roundg (t.length - (i + 1))
          case measure => have := HG.out; have := HIT.out; omega
          case rel => exact ⟨i + 1, ⟨bare, 0, false⟩, HIT.out, rfl, rfl, rfl, rfl, by go_num, HSN.out, by simp only; omega, by simp only; omega, P3⟩
      · rw [if_neg h95] at hsn
        have HSN := hideIt hsn
        clear hsn hdrop hc
        have i0 : (0 : Int) ≤ (i : Int) := by omega
        have i1 : (i : Int) < (s.size : Int) := by omega
        have i2 : (i : Int) + 1 ≤ (s.size : Int) := by omega
        have v1 : IntKind.i64.wrap ((i : Int) + 1) = (i : Int) + 1 := IntWalk.i64_in _ (by omega)
        have v2 : IntKind.i64.wrap ((rn : Int) + 1) = (rn : Int) + 1 := IntWalk.i64_in _ (by omega)
        have hne : ¬ ((c.toNat : Int) = 95) := fun h => h95 (UInt8.toNat_inj.1 (by rw [show (95 : UInt8).toNat = 95 from rfl]; omega))
        have hex := one_of hsi
        rw [hcs] at hex
        have hcat : ∀ u : World, (Op.stringOp .add (str bare) (s.extract i (i + 1))).run Try.prog u = .ok (.string (str bare ++ s.extract i (i + 1))) u := fun u => run_string_add_sum u _ _ (by rw [hex, str_size, str_size]; simp; omega)
        rw [hex, ← str_append] at hcat
        have HIT := hideIt (show i + 1 ≤ t.length from hlt)
        have HRL := hideIt hrl
        clear hszi hlt hrl
        go_wp2
        go_roundg (t.length - (i + 1))
        case measure => have := HG.out; have := HIT.out; omega
        case rel => exact ⟨i + 1, ⟨bare ++ [c], rn + 1, fs⟩, HIT.out, rfl, rfl, by go_num, rfl, by go_num, HSN.out, by simp only [List.length_append, List.length_singleton]; omega, by have := HRL.out; simp only; omega, P3⟩
    · have e : i = t.length := by omega
      rw [e, List.drop_length, seen] at hsn
      injection hsn with hsn
      injection hsn with e1 e2 e3
      subst e1 e2 e3
      have i1 : ¬ (i : Int) < (s.size : Int) := by omega
      obtain ⟨sl, hsl⟩ : ∃ sl, str bare = sl := ⟨_, rfl⟩
      rw [hsl] at cT ⊢
      clear hsl hlt hszi hi hbl hrl e h39
      rcases hrun with h3 | ⟨hf, h1, h3⟩
      · subst h3
        go_wp2_with (first
          | (go_at_call 11; refine (cT _).mono ?_; rintro e1 w3 ⟨rfl, h3⟩))
        go_ret
        exact ⟨rfl, (P3.call h3).2⟩
      · subst hf
        by_cases hr3 : rn = 3
        · subst hr3
          go_wp2_with (first
            | (go_at_call 11; refine (cT _).mono ?_; rintro e1 w3 ⟨rfl, h3⟩))
          go_ret
          exact ⟨rfl, (P3.call h3).2⟩
        · have g0 : ((rn : Int) == 3) = false := by rw [beq_eq_false_iff_ne]; omega
          have g1 : (1 : Int) ≤ (rn : Int) := by omega
          have g3 : (rn : Int) ≤ 3 := by omega
          go_wp2_with (first
            | (go_at_call 11; refine (cT _).mono ?_; rintro e1 w3 ⟨rfl, h3⟩))
          go_ret
          exact ⟨rfl, (P3.call h3).2⟩

theorem decimalGroups_core (H : Type) (enc : TypeId × Value → H) (W : World) (base : Nat) (args : Array Value) (ds gs : List (DataW H)) (before : List MemPlace)
    (hval : ∀ (j : Nat) t v, Try.f8.params[j]? = some t → args[j]? = some v → Value.okWide Try.prog W .any base t v)
    (hW : DataW.Whole enc Try.prog Try.f8.params.toList Rows.decimalGroupsSpec.vars false W args.toList ds gs before) :
    gs = [] ∧ ds.length = 1 ∧ Calls Try.prog 8 args W (Tells (.bool true) W.heap.size W) := by
  obtain ⟨p, q, hA, hV, -, -, -⟩ := hW
  obtain ⟨rfl, rfl⟩ := trodVars_none hV
  have hA : DataW.TrodAll enc Try.prog W 0 (fun _ => true) true Try.f8.params.toList args.toList ds p := hA
  rw [Try.params8] at hA hval
  obtain ⟨v0, d0, rfl, rfl, h0⟩ := trodAll_one hA
  obtain ⟨ah, al, rfl, a1, a0⟩ := open_num (hval 0 _ v0 rfl rfl) h0
  exact ⟨rfl, rfl, groups_walk ah al a1 a0 W⟩

set_option maxRecDepth 100000 in
theorem decimalGroups_lifted (os : Os) (started : os.Started) (H : Type) (enc : TypeId × Value → H) :
    ReturnsInHanded {} Try.checked os 8 .any (Rows.decimalGroupsSpec.pre6 enc Try.prog Try.f8 Rows.decimalGroupsRow.domain false) (Rows.decimalGroupsSpec.post enc Try.prog Try.f8 false true false false) := by
  refine returnsInHanded_of_change (C := Try.checked) own_knob started (by kernel_rfl) Try.func8
    (ChangeSpec.witness6 (enc := enc) (C := Try.checked) false ⟨#[], #[.agg #[.int .u64 0, .int .u64 0]], []⟩ 8 (by kernel_rfl) (by kernel_rfl) (by kernel_rfl) (by kernel_rfl)) ?_
  intro W base args ds gs before hval hW _ _
  obtain ⟨hg, hlen, hc⟩ := decimalGroups_core H enc W base args ds gs before hval hW
  subst hg
  have hr : (Try.f8.params.toList.all fun t => Try.prog.readableRec t && decide (t < Try.prog.types.size)) = true := by kernel_rfl
  have hread : ∀ t ∈ Try.f8.params.toList, Try.prog.readableRec t = true ∧ t < Try.prog.types.size := fun t ht => by
    have h := List.all_eq_true.1 hr t ht
    rw [Bool.and_eq_true, decide_eq_true_eq] at h
    exact h
  refine hc.mono fun e W' ⟨he, hb⟩ => ?_
  subst he
  match ds, hlen with
  | [d0], _ => exact ⟨_, rfl, law_post laid_out Try.underlying4 rfl hread rfl hW rfl rfl rfl hb⟩

theorem decimalGroups_holds : Rows.DecimalGroupsSaid :=
  OpenClaim.holds_of_wide 8 Try.f8 rfl rfl rfl rfl rfl rfl rfl ⟨rfl, rfl, rfl, rfl, rfl⟩ rfl rfl rfl rfl rfl (by kernel_rfl) Try.func8 (by kernel_rfl)
    (of_decide_eq_true (by kernel_rfl)) (by unfold Func.isWrapper; first | (rw [if_pos (by decide +kernel)]; kernel_rfl) | (rw [if_neg (by decide +kernel)]; exact ⟨rfl, rfl⟩))
    (fun os started H enc _ => decimalGroups_lifted os started H enc)

end Go.Proofs.Ytieieafjakcnpaa
