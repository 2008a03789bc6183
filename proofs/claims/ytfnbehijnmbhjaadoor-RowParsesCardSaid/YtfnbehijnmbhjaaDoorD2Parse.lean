/-
  decimal.Parse, walked: whether a text is written as numbers are, and its number, digit by digit.
-/
import Derived.Test.YtfnbehijnmbhjaaDoorD2Digits
import Derived.Test.YtfnbehijnmbhjaaDoorU1Times
import Derived.IntWalk
import Derived.Deep.RegionWith
namespace Go.Proofs.YtfnbehijnmbhjaaDoor
set_option linter.unusedVariables false
set_option linter.unusedSimpArgs false
set_option maxRecDepth 10000
open Go.RowKit

/-- Is a text written as numbers are? -/
def writB (l : List UInt8) : Bool := l.all (fun c => decide (48 ≤ c.toNat ∧ c.toNat ≤ 57)) && (l == [48] || (l != [] && l.head? != some 48))
theorem writB_iff (l : List UInt8) : writB l = true ↔ Written l := by
  unfold writB Written IsD
  rw [Bool.and_eq_true, List.all_eq_true]
  refine and_congr (by simp) ?_
  cases l with
  | nil => simp
  | cons c r =>
    simp only [Bool.or_eq_true, Bool.and_eq_true, beq_iff_eq, bne_iff_ne, ne_eq, List.head?_cons, Option.some.injEq, reduceCtorEq, not_false_eq_true, true_and]
    constructor
    · rintro (h | h)
      · exact .inl h
      · exact .inr ⟨c, r, rfl, h⟩
    · rintro (h | ⟨d, t, h, h2⟩)
      · exact .inl h
      · injection h with h3 h4
        subst h3
        exact .inr h2

set_option maxHeartbeats 4000000 in
theorem written_any (s : ByteArray) (hs : s.size ≤ 9223372036854775807) (w : World) :
    Calls Tryd.prog 50 #[.string s] w fun e w' => e = .returned (.bool (writB s.data.toList)) ∧ w = w' := by
  have hsl : s.data.toList.length = s.size := by simp
  have l0 : (0 : Int) ≤ (s.size : Int) := by omega
  obtain ⟨b, hb⟩ : ∃ b, writB s.data.toList = b := ⟨_, rfl⟩
  rw [hb]
  have HB := hideIt hb
  clear hb
  go_enter Tryd.func50, Tryd.ntmps50
  go_wp2
  go_loopg [6] s.size (fun gk i wr => ∃ k : Nat, k ≤ s.size ∧ gk = s.size - k ∧ i = .int .i64 k ∧ (∀ c ∈ s.data.toList.take k, IsD c) ∧ wr = w)
  case atStart => exact ⟨0, Nat.zero_le _, rfl, rfl, by simp, rfl⟩
  case round =>
    obtain ⟨k, hk, hgk, rfl, hd, rfl⟩ := hrel
    have HG := hideIt hgk
    have HD := hideIt hd
    clear hgk hd
    by_cases hlt : k < s.size
    · have i0 : (0 : Int) ≤ (k : Int) := by omega
      have i1 : (k : Int) < (s.size : Int) := by omega
      have hts : s.data.toList.take (k + 1) = s.data.toList.take k ++ [s[k]] := by
        rw [List.take_succ_eq_append_getElem (by simpa using hlt)]; rfl
      have hmem : s[k] ∈ s.data.toList := by
        have : s.data.toList[k]'(by omega) ∈ s.data.toList := List.getElem_mem _
        exact this
      have HTS := hideIt hts
      have HM := hideIt hmem
      clear hts hmem
      have hno : ¬ IsD s[k] → writB s.data.toList = false := fun h => by
        rw [← Bool.not_eq_true, writB_iff]
        exact fun hw => h (hw.1 _ HM.out)
      have HNO := hideIt hno
      clear hno
      obtain ⟨c, hc⟩ : ∃ c, s[k] = c := ⟨_, rfl⟩
      rw [hc] at HTS HM HNO
      by_cases h0 : c.toNat < 48
      · have hr := HNO.out (fun h => by have := h.1; omega)
        rw [HB.out] at hr
        have HR := hideIt hr
        clear hr
        have j0 : c < 48 := UInt8.lt_iff_toNat_lt.2 h0
        go_wp2
        go_ret
        exact ⟨by rw [HR.out]; rfl, rfl⟩
      · by_cases h1 : 57 < c.toNat
        · have hr := HNO.out (fun h => by have := h.2; omega)
          rw [HB.out] at hr
          have HR := hideIt hr
          clear hr
          go_wp2
          go_ret
          exact ⟨by rw [HR.out]; rfl, rfl⟩
        · go_wp2
          go_roundg (s.size - (k + 1))
          case measure => have := HG.out; omega
          case rel =>
            refine ⟨k + 1, by omega, rfl, by go_num, ?_, rfl⟩
            rw [HTS.out]
            intro d hd
            rcases List.mem_append.1 hd with hd | hd
            · exact HD.out d hd
            · rw [List.mem_singleton] at hd; subst hd; exact ⟨by omega, by omega⟩
    · have e : k = s.size := by omega
      subst e
      have hall : ∀ c ∈ s.data.toList, IsD c := by
        have := HD.out
        rwa [List.take_of_length_le (by omega)] at this
      have HA := hideIt hall
      clear hall hlt
      have hts := ByteArray.toList_eq s
      obtain ⟨l, hl⟩ : ∃ l, s.data.toList = l := ⟨_, rfl⟩
      have hb := HB.out
      rw [hl] at HA hts hsl hb
      clear HD HB
      rcases l with _ | ⟨c, r⟩
      · have HL := hideIt hl
        have HBB := hideIt (show b = false by rw [← hb]; rfl)
        clear hl hsl hb
        go_wp2
        go_ret
        exact ⟨by rw [HBB.out]; rfl, rfl⟩
      · have hz : 0 < s.size := by rw [← hsl]; simp
        have hi0 : s[0] = c := by
          have : s.data.toList[0]'(by rw [hl]; simp) = c := by simp [hl]
          exact this
        have z0 : (0 : Int) < (s.size : Int) := by omega
        have hwb : writB (c :: r) = ((c :: r) == [48] || decide (c ≠ 48)) := by
          unfold writB
          rw [List.all_eq_true.2 (fun x hx => by have := HA.out x hx; unfold IsD at this; simpa using this)]
          by_cases h : c = 48 <;> simp [h]
        rw [hwb] at hb
        clear hwb
        by_cases h48 : c = 48
        · subst h48
          rcases r with _ | ⟨d, r⟩
          · have HBB := hideIt (show b = true by rw [← hb]; rfl)
            clear hl hsl hb
            go_wp2
            go_ret
            exact ⟨by rw [HBB.out]; rfl, rfl⟩
          · have HBB := hideIt (show b = false by rw [← hb]; rfl)
            clear hl hsl hb
            go_wp2
            go_ret
            exact ⟨by rw [HBB.out]; rfl, rfl⟩
        · have HBB := hideIt (show b = true by rw [← hb]; simp [h48])
          have g1 : (c == 48) = false := by rw [beq_eq_false_iff_ne]; exact h48
          have g2 : ((c.toNat : Int) != 48) = true := by
            rw [bne_iff_ne]; intro h; exact h48 (UInt8.toNat_inj.1 (by rw [show (48 : UInt8).toNat = 48 from rfl]; omega))
          clear hl hsl hb
          go_wp2
          go_ret
          exact ⟨by rw [HBB.out]; rfl, rfl⟩

set_option maxHeartbeats 4000000 in
theorem behind_any (ah al d : Int) (a1 : Word ah) (a0 : Word al) (d0 : 0 ≤ d) (d9 : d < 10) (w : World) :
    Calls Tryd.prog 51 #[.agg #[.int .u64 ah, .int .u64 al], .int .u8 d] w (Fit (nv ah al * 10 + d) w.heap.size w) := by
  obtain ⟨nA0, nA1⟩ := nv_word a1 a0
  have wd : Word d := ⟨d0, by omega⟩
  have hw : IntKind.u64.wrap d = d := by rw [IntKind.wrap_u64]; omega
  have A0 : Box ((w.alloc (.cells #[.int .u64 ah, .int .u64 al] 24)).alloc (.cells #[.int .u64 0, .int .u64 0] 24)) w.heap.size 24 #[.int .u64 ah, .int .u64 al] := (Box.made w _ _).past _
  have B0 : Box ((w.alloc (.cells #[.int .u64 ah, .int .u64 al] 24)).alloc (.cells #[.int .u64 0, .int .u64 0] 24)) (w.heap.size + 1) 24 #[.int .u64 0, .int .u64 0] := by
    have := Box.made (w.alloc (.cells #[.int .u64 ah, .int .u64 al] 24)) 24 #[.int .u64 0, .int .u64 0]
    simpa using this
  have L0 : Below w.heap.size w ((w.alloc (.cells #[.int .u64 ah, .int .u64 al] 24)).alloc (.cells #[.int .u64 0, .int .u64 0] 24)) := by repeat (first | exact Below.refl _ _ | apply Below.drew | apply below_drewN | refine Below.alloc ?_ (by simp; try omega) _ | refine Below.setCell ?_ (by simp; try omega) _)
  cases hr : room (nv ah al * 10)
  · have hno := room_not.1 hr
    have hr2 : room (nv ah al * 10 + d) = false := room_not.2 (by omega)
    have cT := fun u : World => (times_any ah al 10 a1 a0 word_lit u).mono fun e w' hf => Fit.no hr hf
    rw [show Fit (nv ah al * 10 + d) w.heap.size w = fun e w' => e = .returned (.tuple #[.agg #[.int .u64 0, .int .u64 0], .int .i64 10]) ∧ Below w.heap.size w w' from by unfold Fit; rw [rh_no hr2, rl_no hr2, re_no hr2]]
    clear hno hr hr2 hw
    go_enter Tryd.func51, Tryd.ntmps51
    go_upto_region 1 with fail
    generalize (w.alloc (.cells #[.int .u64 ah, .int .u64 al] 24)).alloc (.cells #[.int .u64 0, .int .u64 0] 24) = W at *
    obtain ⟨p1, p2, p3⟩ := A0.num
    go_wp2_with (first
      | (go_at_call 70; refine (cT _).mono ?_; rintro e w1 ⟨rfl, h1⟩
         have A1 := A0.call h1
         have B1 := B0.call h1
         have L1 := chain L0 h1
         obtain ⟨q1, q2, q3⟩ := A1.num
         obtain ⟨r1, r2, r3⟩ := B1.num
         have q4 := A1.free 0
         have q5 := A1.free 1
         have r4 := B1.free 0
         have r5 := B1.free 1))
    have ee := (((B1.apart (p := ⟨w.heap.size, 0, none⟩) (by simp) (.int .u64 0)).apart (p := ⟨w.heap.size, 1, none⟩) (by simp) (.int .u64 0)).wrote 0 (.int .u64 0)).wrote 1 (.int .u64 0)
    have e0 := ee.read 0
    have e1 := ee.read 1
    simp only [Nat.reduceLT, List.setIfInBounds_toArray, List.set_cons_zero, List.set_cons_succ, List.getElem?_toArray, List.getElem?_cons_zero, List.getElem?_cons_succ] at e0 e1
    exact bodyPost_ret (v := .tuple #[.agg #[.int .u64 0, .int .u64 0], .int .i64 10]) (by simp [results, Tryd.results51, go_sem, e0, e1]) rfl
      ⟨rfl, by repeat (first | exact L1 | refine Below.setCell ?_ (by simp) _)⟩
  · obtain ⟨th, tl, t1, t0, ht⟩ := halves (s := nv ah al * 10) (by omega) (room_iff.1 hr).2
    have cT := fun u : World => (times_any ah al 10 a1 a0 word_lit u).mono fun e w' hf => Fit.yes ht t1 t0 hf
    have cA := fun u : World => add_any th tl 0 d t1 t0 word_lit wd u
    rw [ht, show nv 0 d = d by unfold nv; omega] at cA
    obtain ⟨sh, hsh⟩ : ∃ sh, rh (nv ah al * 10 + d) = sh := ⟨_, rfl⟩
    obtain ⟨sl, hsl⟩ : ∃ sl, rl (nv ah al * 10 + d) = sl := ⟨_, rfl⟩
    obtain ⟨se, hse⟩ : ∃ se, re (nv ah al * 10 + d) = se := ⟨_, rfl⟩
    have hF : ∀ B u, Fit (nv ah al * 10 + d) B u = fun e w' => e = .returned (.tuple #[.agg #[.int .u64 sh, .int .u64 sl], .int .i64 se]) ∧ Below B u w' := fun B u => by unfold Fit; rw [hsh, hsl, hse]
    simp only [hF] at cA ⊢
    clear hr ht hsh hsl hse hF nA0 nA1
    go_enter Tryd.func51, Tryd.ntmps51
    go_upto_region 1 with fail
    generalize (w.alloc (.cells #[.int .u64 ah, .int .u64 al] 24)).alloc (.cells #[.int .u64 0, .int .u64 0] 24) = W at *
    obtain ⟨p1, p2, p3⟩ := A0.num
    go_upto_region 4 with (first
      | (go_at_call 70; refine (cT _).mono ?_; rintro e w1 ⟨rfl, h1⟩
         have A1 := A0.call h1
         have B1 := B0.call h1
         have L1 := chain L0 h1
         obtain ⟨q1, q2, q3⟩ := A1.num
         have q4 := A1.free 0
         have q5 := A1.free 1))
    have A2 := (A1.wrote 0 (.int .u64 th)).wrote 1 (.int .u64 tl)
    have B2 := (B1.apart (p := ⟨w.heap.size, 0, none⟩) (by simp) (.int .u64 th)).apart (p := ⟨w.heap.size, 1, none⟩) (by simp) (.int .u64 tl)
    have L2 : Below w.heap.size w ((w1.setCell ⟨w.heap.size, 0, none⟩ (.int .u64 th)).setCell ⟨w.heap.size, 1, none⟩ (.int .u64 tl)) := (L1.setCell (by simp) _).setCell (by simp) _
    have A2' : Box ((w1.setCell ⟨w.heap.size, 0, none⟩ (.int .u64 th)).setCell ⟨w.heap.size, 1, none⟩ (.int .u64 tl)) w.heap.size 24 #[.int .u64 th, .int .u64 tl] := by simpa using A2
    clear A1 B1 L1 A0 B0 L0 A2 q1 q2 q3 q4 q5 p1 p2 p3
    generalize (w1.setCell ⟨w.heap.size, 0, none⟩ (.int .u64 th)).setCell ⟨w.heap.size, 1, none⟩ (.int .u64 tl) = V at *
    go_cut [5] (fun s5 wx => s5 = .int .i64 se ∧ Box wx (w.heap.size + 1) 24 #[.int .u64 sh, .int .u64 sl] ∧ Below w.heap.size w wx)
    case first =>
      go_region_held3 (fun w' => Below w.heap.size w w' ∧ w'.cell? ⟨w.heap.size, 0, none⟩ = some (.int .u64 th) ∧ w'.cell? ⟨w.heap.size, 1, none⟩ = some (.int .u64 tl))
        (first
          | exact ⟨L2.drew, A2'.read 0, A2'.read 1⟩
          | exact ⟨chain L2.drew k2, (A2'.draw.call k2).read 0, (A2'.draw.call k2).read 1⟩
          | exact ⟨chain (chain L2.drew k2) k3, ((A2'.draw.call k2).call k3).read 0, ((A2'.draw.call k2).call k3).read 1⟩
          | exact ⟨((chain (chain L2.drew k2) k3).setCell (by simp) _).setCell (by simp) _, ((((A2'.draw.call k2).call k3).apart (by simp) _).apart (by simp) _).read 0, ((((A2'.draw.call k2).call k3).apart (by simp) _).apart (by simp) _).read 1⟩)
        (first
          | (go_at_call 72; refine (of_any _ _).mono ?_; rintro e v2 ⟨rfl, k2⟩)
          | (go_at_call 71; ((with_reducible refine (cA _).mono ?_); rintro e v3 ⟨rfl, k3⟩)
             have R3 := (B2.draw.call k2).call k3
             obtain ⟨g1, g2, g3⟩ := R3.num
             have g4 := R3.free 0
             have g5 := R3.free 1))
      all_goals go_wp2_with fail
      all_goals go_meet
      all_goals exact ⟨rfl, (R3.wrote 0 _).wrote 1 _, ((chain (chain L2.drew k2) k3).setCell (by simp) _).setCell (by simp) _⟩
    case rest =>
      obtain ⟨rfl, hb, hl⟩ := hcut
      have e0 := hb.read 0
      have e1 := hb.read 1
      simp only [Nat.reduceLT, List.setIfInBounds_toArray, List.set_cons_zero, List.set_cons_succ, List.getElem?_toArray, List.getElem?_cons_zero, List.getElem?_cons_succ] at e0 e1
      go_wp2
      exact bodyPost_ret (v := .tuple #[.agg #[.int .u64 sh, .int .u64 sl], .int .i64 se]) (by simp [results, Tryd.results51, go_sem, e0, e1]) rfl ⟨rfl, hl⟩

/-- What Parse tells of a text. -/
def parH (l : List UInt8) : Int := if writB l then rh (pv l : Int) else 0
def parL (l : List UInt8) : Int := if writB l then rl (pv l : Int) else 0
def parE (l : List UInt8) : Int := if writB l then re (pv l : Int) else 20
def ParseTells (l : List UInt8) (B : Nat) (w : World) (e : Ending) (w' : World) : Prop :=
  e = .returned (.tuple #[.agg #[.int .u64 (parH l), .int .u64 (parL l)], .int .i64 (parE l)]) ∧ Below B w w'
theorem par_no {l : List UInt8} (h : writB l = false) : parH l = 0 ∧ parL l = 0 ∧ parE l = 20 := by simp [parH, parL, parE, h]
theorem par_big {l : List UInt8} (h : writB l = true) (hr : room (pv l : Int) = false) : parH l = 0 ∧ parL l = 0 ∧ parE l = 10 := by
  simp [parH, parL, parE, h, rh_no hr, rl_no hr, re_no hr]
theorem par_yes {l : List UInt8} (h : writB l = true) (hr : room (pv l : Int) = true) : parH l = rh (pv l : Int) ∧ parL l = rl (pv l : Int) ∧ parE l = 0 := by
  simp [parH, parL, parE, h, re_yes hr]

set_option maxHeartbeats 8000000 in
theorem parse_any (s : ByteArray) (hs : s.size ≤ 9223372036854775807) (w : World) : Calls Tryd.prog 28 #[.string s] w (ParseTells s.data.toList w.heap.size w) := by
  have hsl : s.data.toList.length = s.size := by simp
  have l0 : (0 : Int) ≤ (s.size : Int) := by omega
  obtain ⟨l, hl⟩ : ∃ l, s.data.toList = l := ⟨_, rfl⟩
  obtain ⟨ph, hph⟩ : ∃ ph, parH l = ph := ⟨_, rfl⟩
  obtain ⟨pl, hpl⟩ : ∃ pl, parL l = pl := ⟨_, rfl⟩
  obtain ⟨pe, hpe⟩ : ∃ pe, parE l = pe := ⟨_, rfl⟩
  obtain ⟨b, hb⟩ : ∃ b, writB l = b := ⟨_, rfl⟩
  have cW := fun u : World => written_any s hs u
  rw [hl, hb] at cW
  rw [show ParseTells s.data.toList w.heap.size w = fun e w' => e = .returned (.tuple #[.agg #[.int .u64 ph, .int .u64 pl], .int .i64 pe]) ∧ Below w.heap.size w w' from by unfold ParseTells; rw [hl, hph, hpl, hpe]]
  rw [hl] at hsl
  have A0 := Box.made w 24 #[.int .u64 0, .int .u64 0]
  have L0 : Below w.heap.size w (w.alloc (.cells #[.int .u64 0, .int .u64 0] 24)) := by repeat (first | exact Below.refl _ _ | apply Below.drew | apply below_drewN | refine Below.alloc ?_ (by simp; try omega) _ | refine Below.setCell ?_ (by simp; try omega) _)
  cases b
  · obtain ⟨e1, e2, e3⟩ := par_no hb
    obtain rfl : ph = 0 := by omega
    obtain rfl : pl = 0 := by omega
    obtain rfl : pe = 20 := by omega
    clear e1 e2 e3 hph hpl hpe hb hl hsl
    go_enter Tryd.func28, Tryd.ntmps28
    go_upto_region 1 with fail
    generalize w.alloc (.cells #[.int .u64 0, .int .u64 0] 24) = W at *
    obtain ⟨p1, p2, p3⟩ := A0.num
    have p4 := A0.free 0
    have p5 := A0.free 1
    go_wp2_with (first
      | (go_at_call 50; refine (cW _).mono ?_; rintro e w1 ⟨rfl, rfl⟩))
    have ee := (A0.wrote 0 (.int .u64 0)).wrote 1 (.int .u64 0)
    have e0 := ee.read 0
    have e1 := ee.read 1
    simp only [Nat.reduceLT, List.setIfInBounds_toArray, List.set_cons_zero, List.set_cons_succ, List.getElem?_toArray, List.getElem?_cons_zero, List.getElem?_cons_succ] at e0 e1
    exact bodyPost_ret (v := .tuple #[.agg #[.int .u64 0, .int .u64 0], .int .i64 20]) (by simp [results, Tryd.results28, go_sem, e0, e1]) rfl
      ⟨rfl, by repeat (first | exact L0 | refine Below.setCell ?_ (by simp) _)⟩
  · have HB := hideIt hb
    have HPH := hideIt hph
    have HPL := hideIt hpl
    have HPE := hideIt hpe
    have HL := hideIt hl
    clear hb hph hpl hpe hl
    go_enter Tryd.func28, Tryd.ntmps28
    go_upto_region 1 with fail
    have hW : (w.alloc (.cells #[.int .u64 0, .int .u64 0] 24)).heap.size = w.heap.size + 1 := by simp
    generalize w.alloc (.cells #[.int .u64 0, .int .u64 0] 24) = W at *
    go_upto_region 4 with (first
      | (go_at_call 50; refine (cW _).mono ?_; rintro e w1 ⟨rfl, rfl⟩))
    have A1 := A0.past (.cells #[.int .u64 0, .int .u64 0] 24)
    have B1 := Box.made W 24 #[.int .u64 0, .int .u64 0]
    rw [hW] at B1
    have L1 : Below w.heap.size w (W.alloc (.cells #[.int .u64 0, .int .u64 0] 24)) := chainA L0 _
    simp only [hW] at *
    generalize W.alloc (.cells #[.int .u64 0, .int .u64 0] 24) = V at *
    clear A0 L0 hW
    go_wp2
    go_loopg [13] s.size (fun gk i wr => ∃ (k : Nat) (x y : Int), k ≤ s.size ∧ gk = s.size - k ∧ i = .int .i64 k ∧ rh (pv (l.take k) : Int) = x ∧ rl (pv (l.take k) : Int) = y ∧ room (pv (l.take k) : Int) = true ∧
      Box wr w.heap.size 24 #[.int .u64 0, .int .u64 0] ∧ Box wr (w.heap.size + 1) 24 #[.int .u64 x, .int .u64 y] ∧ Below w.heap.size w wr)
    case atStart => exact ⟨0, 0, 0, Nat.zero_le _, rfl, rfl, by simp [pv, rh, room], by simp [pv, rl, room], by simp [pv, room], A1, B1, L1⟩
    case round =>
      obtain ⟨k, x, y, hk, hgk, rfl, hx, hy, hroom, hA, hB, hL⟩ := hrel
      have HG := hideIt hgk
      clear hgk A1 B1 L1
      by_cases hlt : k < s.size
      · obtain ⟨c, hc⟩ : ∃ c, s[k] = c := ⟨_, rfl⟩
        have hkl : k < l.length := by omega
        have hcl : l[k] = c := by
          have hll := HL.out
          subst hll
          exact hc
        have htk : l.take (k + 1) = l.take k ++ [c] := by rw [List.take_succ_eq_append_getElem hkl, hcl]
        have hD : IsD c := ((writB_iff l).1 HB.out).1 c (by rw [← hcl]; exact List.getElem_mem _)
        have hD1 : 48 ≤ c.toNat := hD.1
        have hD2 : c.toNat ≤ 57 := hD.2
        have wx : Word x := by rw [← hx]; exact rh_word _
        have wy : Word y := by rw [← hy]; exact rl_word _
        have hv : nv x y = (pv (l.take k) : Int) := by rw [← hx, ← hy]; exact nv_r hroom
        have cB := fun u : World => behind_any x y ((c.toNat : Int) - 48) wx wy (by omega) (by omega) u
        have hs1 : (pv (l.take (k + 1)) : Int) = nv x y * 10 + ((c.toNat : Int) - 48) := by rw [htk, pv_snoc, hv]; omega
        rw [← hs1] at cB
        obtain ⟨sh, hsh⟩ : ∃ sh, rh (pv (l.take (k + 1)) : Int) = sh := ⟨_, rfl⟩
        obtain ⟨sl, hsl⟩ : ∃ sl, rl (pv (l.take (k + 1)) : Int) = sl := ⟨_, rfl⟩
        obtain ⟨se, hse⟩ : ∃ se, re (pv (l.take (k + 1)) : Int) = se := ⟨_, rfl⟩
        have hF : ∀ B u, Fit (pv (l.take (k + 1)) : Int) B u = fun e w' => e = .returned (.tuple #[.agg #[.int .u64 sh, .int .u64 sl], .int .i64 se]) ∧ Below B u w' := fun B u => by unfold Fit; rw [hsh, hsl, hse]
        simp only [hF] at cB
        have HSH := hideIt hsh
        have HSL := hideIt hsl
        have HSE := hideIt hse
        have y1 : IntKind.u8.wrap ((c.toNat : Int) - 48) = (c.toNat : Int) - 48 := by rw [IntKind.wrap_u8]; omega
        have i0 : (0 : Int) ≤ (k : Int) := by omega
        have i1 : (k : Int) < (s.size : Int) := by omega
        clear hF hsh hsl hse hs1 hv hx hy hroom hD hcl htk hkl
        go_upto_region 8 with fail
        go_cut [6] from 16 to 25 (fun s6 wx => s6 = .int .i64 se ∧ Box wx w.heap.size 24 #[.int .u64 0, .int .u64 0] ∧ Box wx (w.heap.size + 1) 24 #[.int .u64 sh, .int .u64 sl] ∧ Below w.heap.size w wx)
        case first =>
          obtain ⟨r1, r2, r3⟩ := hB.num
          go_region_with (first
            | (go_at_call 51; ((with_reducible refine (cB _).mono ?_); rintro e v2 ⟨rfl, k2⟩)
               have A3 := hA.draw.call k2
               have R3 := hB.draw.call k2
               have L3 := chain hL.drew k2
               obtain ⟨g1, g2, g3⟩ := R3.num
               have g4 := R3.free 0
               have g5 := R3.free 1))
          all_goals go_wp2_with fail
          all_goals go_meet
          all_goals exact ⟨rfl, (A3.apart (by simp) _).apart (by simp) _, (R3.wrote 0 _).wrote 1 _, (L3.setCell (by simp) _).setCell (by simp) _⟩
        case rest =>
          obtain ⟨rfl, hA2, hB2, hL2⟩ := hcut
          clear cB cW hA hB hL
          obtain ⟨p1, p2, p3⟩ := hA2.num
          have p4 := hA2.free 0
          have p5 := hA2.free 1
          cases hr2 : room (pv (l.take (k + 1)) : Int)
          · have hno : room (pv l : Int) = false := by
              have h1 := room_not.1 hr2
              have h2 := pv_le_append (l.take (k + 1)) (l.drop (k + 1))
              rw [List.take_append_drop] at h2
              exact room_not.2 (by omega)
            obtain ⟨e1, e2, e3⟩ := par_big HB.out hno
            have q1 : ph = 0 := by rw [← HPH.out, e1]
            have q2 : pl = 0 := by rw [← HPL.out, e2]
            have q3 : pe = 10 := by rw [← HPE.out, e3]
            have q4 : se = 10 := by rw [← HSE.out, re_no hr2]
            subst q1 q2 q3 q4
            clear hno e1 e2 e3 hr2
            go_wp2
            have ee := (hA2.wrote 0 (.int .u64 0)).wrote 1 (.int .u64 0)
            have e0 := ee.read 0
            have e1 := ee.read 1
            simp only [Nat.reduceLT, List.setIfInBounds_toArray, List.set_cons_zero, List.set_cons_succ, List.getElem?_toArray, List.getElem?_cons_zero, List.getElem?_cons_succ] at e0 e1
            exact bodyPost_ret (v := .tuple #[.agg #[.int .u64 0, .int .u64 0], .int .i64 10]) (by simp [results, Tryd.results28, go_sem, e0, e1]) rfl
              ⟨rfl, by repeat (first | exact hL2 | refine Below.setCell ?_ (by simp) _)⟩
          · have q4 : se = 0 := by rw [← HSE.out, re_yes hr2]
            subst q4
            have HR2 := hideIt hr2
            have v1 : IntKind.i64.wrap ((k : Int) + 1) = (k : Int) + 1 := IntWalk.i64_in _ (by omega)
            clear hr2
            go_wp2
            go_roundg (s.size - (k + 1))
            case measure => have := HG.out; omega
            case rel => exact ⟨k + 1, sh, sl, by omega, rfl, by go_num, HSH.out, HSL.out, HR2.out, hA2, hB2, hL2⟩
      · have e : k = s.size := by omega
        subst e
        have ht : l.take s.size = l := List.take_of_length_le (by omega)
        rw [ht] at hx hy hroom
        obtain ⟨e1, e2, e3⟩ := par_yes HB.out hroom
        have q1 : ph = x := by rw [← HPH.out, e1, hx]
        have q2 : pl = y := by rw [← HPL.out, e2, hy]
        have q3 : pe = 0 := by rw [← HPE.out, e3]
        subst q1 q2 q3
        clear ht hx hy hroom e1 e2 e3 cW
        obtain ⟨p1, p2, p3⟩ := hA.num
        have p4 := hA.free 0
        have p5 := hA.free 1
        obtain ⟨r1, r2, r3⟩ := hB.num
        go_wp2
        have ee := (hA.wrote 0 (.int .u64 ph)).wrote 1 (.int .u64 pl)
        have e0 := ee.read 0
        have e1 := ee.read 1
        simp only [Nat.reduceLT, List.setIfInBounds_toArray, List.set_cons_zero, List.set_cons_succ, List.getElem?_toArray, List.getElem?_cons_zero, List.getElem?_cons_succ] at e0 e1
        exact bodyPost_ret (v := .tuple #[.agg #[.int .u64 ph, .int .u64 pl], .int .i64 0]) (by simp [results, Tryd.results28, go_sem, e0, e1]) rfl
          ⟨rfl, by repeat (first | exact hL | refine Below.setCell ?_ (by simp) _)⟩
end Go.Proofs.YtfnbehijnmbhjaaDoor
