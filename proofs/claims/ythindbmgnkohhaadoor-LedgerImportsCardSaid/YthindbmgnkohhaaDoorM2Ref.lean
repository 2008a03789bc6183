/- Several of my texts, laid as one. -/
import Derived.Test.YthindbmgnkohhaaDoorM2Dec
import Derived.Test.YthindbmgnkohhaaDoorM1Ref
import Derived.Deep.RegionHeld3
/-
  paymasterref02.Parse, walked: all bytes are digits, none is ahead of others that is a nought; then digit by digit.
-/
namespace Go.Proofs.YthindbmgnkohhaaDoor
set_option linter.unusedVariables false
set_option linter.unusedSimpArgs false
set_option maxRecDepth 10000
open Go.RowKit

/-- Three blocks of two halves: what is told, none, the number so far. -/
def Three (w : World) (x y : Int) (w' : World) : Prop := Box w' w.heap.size 45 #[.int .u64 0, .int .u64 0] ∧ Box w' (w.heap.size + 1) 45 #[.int .u64 0, .int .u64 0] ∧
  Box w' (w.heap.size + 2) 45 #[.int .u64 x, .int .u64 y] ∧ Below w.heap.size w w'
section
variable {w W w' : World} {x y : Int}
theorem Three.call (h : Three w x y W) (hb : Below W.heap.size W w') : Three w x y w' := ⟨h.1.call hb, h.2.1.call hb, h.2.2.1.call hb, chain h.2.2.2 hb⟩
theorem Three.past (h : Three w x y W) (o : Obj) : Three w x y (W.alloc o) := ⟨h.1.past o, h.2.1.past o, h.2.2.1.past o, chainA h.2.2.2 o⟩
theorem Three.drew (h : Three w x y W) : Three w x y W.drew := ⟨h.1.draw, h.2.1.draw, h.2.2.1.draw, h.2.2.2.drew⟩
theorem Three.set_ (h : Three w x y W) {p : Addr} (hp : w.heap.size + 2 < p.block) (u : Value) : Three w x y (W.setCell p u) :=
  ⟨h.1.apart (by omega) u, h.2.1.apart (by omega) u, h.2.2.1.apart (by omega) u, h.2.2.2.setCell (by omega) u⟩
end

set_option maxRecDepth 100000 in
set_option maxHeartbeats 16000000 in
theorem rparse_any (s : ByteArray) (hs : s.size ≤ 9223372036854775807) (w : World) : Calls Tryd.prog 75 #[.string s] w (ParseTells s.data.toList w.heap.size w) := by
  have hsl : s.data.toList.length = s.size := by simp
  obtain ⟨l, hl⟩ : ∃ l, s.data.toList = l := ⟨_, rfl⟩
  obtain ⟨ph, hph⟩ : ∃ ph, parH l = ph := ⟨_, rfl⟩
  obtain ⟨pl, hpl⟩ : ∃ pl, parL l = pl := ⟨_, rfl⟩
  obtain ⟨pe, hpe⟩ : ∃ pe, parE l = pe := ⟨_, rfl⟩
  rw [show ParseTells s.data.toList w.heap.size w = fun e w' => e = .returned (.tuple #[.agg #[.int .u64 ph, .int .u64 pl], .int .i64 pe]) ∧ Below w.heap.size w w' from by unfold ParseTells; rw [hl, hph, hpl, hpe]]
  rw [hl] at hsl
  have A0 : Box ((w.alloc (.cells #[.int .u64 0, .int .u64 0] 45)).alloc (.cells #[.int .u64 0, .int .u64 0] 45)) w.heap.size 45 #[.int .u64 0, .int .u64 0] := (Box.made w _ _).past _
  have B0 : Box ((w.alloc (.cells #[.int .u64 0, .int .u64 0] 45)).alloc (.cells #[.int .u64 0, .int .u64 0] 45)) (w.heap.size + 1) 45 #[.int .u64 0, .int .u64 0] := by
    have := Box.made (w.alloc (.cells #[.int .u64 0, .int .u64 0] 45)) 45 #[.int .u64 0, .int .u64 0]
    simpa using this
  have L0 : Below w.heap.size w ((w.alloc (.cells #[.int .u64 0, .int .u64 0] 45)).alloc (.cells #[.int .u64 0, .int .u64 0] 45)) := by repeat (first | exact Below.refl _ _ | apply Below.drew | apply below_drewN | refine Below.alloc ?_ (by simp; try omega) _ | refine Below.setCell ?_ (by simp; try omega) _)
  have hW : ((w.alloc (.cells #[.int .u64 0, .int .u64 0] 45)).alloc (.cells #[.int .u64 0, .int .u64 0] 45)).heap.size = w.heap.size + 2 := by simp
  have HPH := hideIt hph
  have HPL := hideIt hpl
  have HPE := hideIt hpe
  have HL := hideIt hl
  clear hph hpl hpe hl
  go_enter Tryd.func75, Tryd.ntmps75
  go_wp2
  generalize (w.alloc (.cells #[.int .u64 0, .int .u64 0] 45)).alloc (.cells #[.int .u64 0, .int .u64 0] 45) = W at *
  obtain ⟨p1, p2, p3⟩ := A0.num
  have p4 := A0.free 0
  have p5 := A0.free 1
  obtain ⟨q1, q2, q3⟩ := B0.num
  have fin : ∀ e0 : Int, parH l = 0 → parL l = 0 → parE l = e0 → ph = 0 ∧ pl = 0 ∧ pe = e0 := fun e0 h1 h2 h3 => ⟨by rw [← HPH.out, h1], by rw [← HPL.out, h2], by rw [← HPE.out, h3]⟩
  have FIN := hideIt fin
  clear fin
  go_loopg [5] s.size (fun gk i wr => ∃ k : Nat, k ≤ s.size ∧ gk = s.size - k ∧ i = .int .i64 k ∧ (∀ c ∈ l.take k, IsD c) ∧ wr = W)
  case atStart => exact ⟨0, Nat.zero_le _, rfl, rfl, by simp, rfl⟩
  case round =>
    obtain ⟨k, hk, hgk, rfl, hd, rfl⟩ := hrel
    have HG := hideIt hgk
    have HD := hideIt hd
    clear hgk hd
    by_cases hlt : k < s.size
    · have i0 : (0 : Int) ≤ (k : Int) := by omega
      have i1 : (k : Int) < (s.size : Int) := by omega
      have v1 : IntKind.i64.wrap ((k : Int) + 1) = (k : Int) + 1 := IntWalk.i64_in _ (by omega)
      have hkl : k < l.length := by omega
      obtain ⟨c, hc⟩ : ∃ c, s[k] = c := ⟨_, rfl⟩
      have hcl : l[k] = c := by
        have hll := HL.out
        subst hll
        exact hc
      have htk : l.take (k + 1) = l.take k ++ [c] := by rw [List.take_succ_eq_append_getElem hkl, hcl]
      have hno : ¬ IsD c → ph = 0 ∧ pl = 0 ∧ pe = 20 := fun h => by
        have hw : writB l = false := by
          rw [← Bool.not_eq_true, writB_iff]
          exact fun hw => h (hw.1 _ (by rw [← hcl]; exact List.getElem_mem _))
        obtain ⟨e1, e2, e3⟩ := par_no hw
        exact FIN.out 20 e1 e2 e3
      have HTK := hideIt htk
      have HNO := hideIt hno
      clear htk hno hcl hkl
      by_cases h0 : c.toNat < 48
      · obtain ⟨e1, e2, e3⟩ := HNO.out (fun h => by have := h.1; omega)
        subst e1 e2 e3
        go_wp2
        have ee := (A0.wrote 0 (.int .u64 0)).wrote 1 (.int .u64 0)
        have e0 := ee.read 0
        have e1 := ee.read 1
        simp only [Nat.reduceLT, List.setIfInBounds_toArray, List.set_cons_zero, List.set_cons_succ, List.getElem?_toArray, List.getElem?_cons_zero, List.getElem?_cons_succ] at e0 e1
        exact bodyPost_ret (v := .tuple #[.agg #[.int .u64 0, .int .u64 0], .int .i64 20]) (by simp [results, Tryd.results75, go_sem, e0, e1]) rfl
          ⟨rfl, by repeat (first | exact L0 | refine Below.setCell ?_ (by simp) _)⟩
      · by_cases h1 : 57 < c.toNat
        · obtain ⟨e1, e2, e3⟩ := HNO.out (fun h => by have := h.2; omega)
          subst e1 e2 e3
          go_wp2
          have ee := (A0.wrote 0 (.int .u64 0)).wrote 1 (.int .u64 0)
          have e0 := ee.read 0
          have e1 := ee.read 1
          simp only [Nat.reduceLT, List.setIfInBounds_toArray, List.set_cons_zero, List.set_cons_succ, List.getElem?_toArray, List.getElem?_cons_zero, List.getElem?_cons_succ] at e0 e1
          exact bodyPost_ret (v := .tuple #[.agg #[.int .u64 0, .int .u64 0], .int .i64 20]) (by simp [results, Tryd.results75, go_sem, e0, e1]) rfl
            ⟨rfl, by repeat (first | exact L0 | refine Below.setCell ?_ (by simp) _)⟩
        · go_wp2
          go_roundg (s.size - (k + 1))
          case measure => have := HG.out; omega
          case rel =>
            refine ⟨k + 1, by omega, rfl, by go_num, ?_, rfl⟩
            rw [HTK.out]
            intro d hd
            rcases List.mem_append.1 hd with hd | hd
            · exact HD.out d hd
            · rw [List.mem_singleton] at hd; subst hd; exact ⟨by omega, by omega⟩
    · have e : k = s.size := by omega
      subst e
      have hall : ∀ c ∈ l, IsD c := by
        have := HD.out
        rwa [List.take_of_length_le (by omega)] at this
      have HA := hideIt hall
      clear hall hlt HD HG hk
      have hwall : ∀ c r, l = c :: r → writB l = (l == [48] || decide (c ≠ 48)) := fun c r h => by
        subst h
        unfold writB
        rw [List.all_eq_true.2 (fun x hx => by have := HA.out x hx; unfold IsD at this; simpa using this)]
        by_cases h : c = 48 <;> simp [h]
      have HWA := hideIt hwall
      clear hwall
      obtain ⟨b, hb⟩ : ∃ b, writB l = b := ⟨_, rfl⟩
      have HB := hideIt hb
      clear hb
      go_upto_region 7 with fail
      go_cut [42] from 30 to 43 (fun s42 wx => s42 = .bool (!b) ∧ wx = wr)
      case first =>
        have hl2 := HL.out
        have ha := HWA.out
        have hb := HB.out
        clear HL HWA HPH HPL HPE FIN HA HB
        rcases l with _ | ⟨c, r⟩
        · have hz : s.size = 0 := hsl.symm
          have HBB := hideIt (show b = false by rw [← hb]; rfl)
          clear hb ha hsl hl2
          go_wp2_with fail
          all_goals go_meet
          exact ⟨by rw [HBB.out]; rfl, rfl⟩
        · have hz0 : 0 < s.size := by rw [← hsl]; simp
          have hi0 : s[0] = c := by
            have : s.data.toList[0]'(by rw [hl2]; simp) = c := by simp [hl2]
            exact this
          have ha2 := ha c r rfl
          rcases r with _ | ⟨d, r⟩
          · have hz : s.size = 1 := hsl.symm
            have HBB := hideIt (show b = true by
              rw [← hb, ha2]
              by_cases h : c = 48 <;> simp [h])
            clear hb ha hsl hl2 ha2 hi0
            go_wp2_with fail
            all_goals go_meet
            exact ⟨by rw [HBB.out]; rfl, rfl⟩
          · have hz : s.size = r.length + 1 + 1 := by rw [← hsl]; rfl
            have z0 : ((s.size : Int) == 0) = false := by rw [beq_eq_false_iff_ne]; omega
            have z3 : ¬ s.size = 0 := by omega
            have z1 : (1 : Int) < (s.size : Int) := by omega
            have z2 : (0 : Int) < (s.size : Int) := by omega
            by_cases h48 : c = 48
            · have HBB := hideIt (show b = false by rw [← hb, ha2]; simp [h48])
              subst h48
              clear hb ha hsl hl2 ha2 hz
              go_wp2_with fail
              all_goals go_meet
              exact ⟨by rw [HBB.out]; rfl, rfl⟩
            · have HBB := hideIt (show b = true by rw [← hb, ha2]; simp [h48])
              have hne : ¬ ((c.toNat : Int) = 48) := fun h => h48 (UInt8.toNat_inj.1 (by rw [show (48 : UInt8).toNat = 48 from rfl]; omega))
              clear hb ha hsl hl2 ha2 hz
              go_wp2_with fail
              all_goals go_meet
              exact ⟨by rw [HBB.out]; first | rfl | simp [hne], rfl⟩
      case rest =>
        obtain ⟨rfl, rfl⟩ := hcut
        cases b
        · obtain ⟨e1, e2, e3⟩ := par_no HB.out
          obtain ⟨e1, e2, e3⟩ := FIN.out 20 e1 e2 e3
          subst e1 e2 e3
          go_wp2
          have ee := (A0.wrote 0 (.int .u64 0)).wrote 1 (.int .u64 0)
          have e0 := ee.read 0
          have e1 := ee.read 1
          simp only [Nat.reduceLT, List.setIfInBounds_toArray, List.set_cons_zero, List.set_cons_succ, List.getElem?_toArray, List.getElem?_cons_zero, List.getElem?_cons_succ] at e0 e1
          exact bodyPost_ret (v := .tuple #[.agg #[.int .u64 0, .int .u64 0], .int .i64 20]) (by simp [results, Tryd.results75, go_sem, e0, e1]) rfl
            ⟨rfl, by repeat (first | exact L0 | refine Below.setCell ?_ (by simp) _)⟩
        · have T0 : Three w 0 0 (wc.alloc (.cells #[.int .u64 0, .int .u64 0] 45)) := by
            refine ⟨A0.past _, B0.past _, ?_, chainA L0 _⟩
            have := Box.made wc 45 #[.int .u64 0, .int .u64 0]
            rw [hW] at this
            exact this
          clear HWA
          go_wp2_with fail
          generalize wc.alloc (.cells #[.int .u64 0, .int .u64 0] 45) = V0 at *
          clear A0 B0 L0 hW p1 p2 p3 p4 p5 q1 q2 q3
          go_loopg [7] s.size (fun gk i wx => ∃ (k : Nat) (x y : Int), k ≤ s.size ∧ gk = s.size - k ∧ i = .int .i64 k ∧ rh (pv (l.take k) : Int) = x ∧ rl (pv (l.take k) : Int) = y ∧ room (pv (l.take k) : Int) = true ∧ Three w x y wx)
          case atStart => exact ⟨0, 0, 0, Nat.zero_le _, rfl, rfl, by simp [pv, rh, room], by simp [pv, rl, room], by simp [pv, room], T0⟩
          case round =>
            obtain ⟨k, x, y, hk, hgk, rfl, hx, hy, hroom, T1⟩ := hrel
            have HG := hideIt hgk
            clear hgk T0
            by_cases hlt : k < s.size
            · obtain ⟨c, hc⟩ : ∃ c, s[k] = c := ⟨_, rfl⟩
              have hkl : k < l.length := by omega
              have hcl : l[k] = c := by
                have hll := HL.out
                subst hll
                exact hc
              have htk : l.take (k + 1) = l.take k ++ [c] := by rw [List.take_succ_eq_append_getElem hkl, hcl]
              have hD : IsD c := HA.out c (by rw [← hcl]; exact List.getElem_mem _)
              have hD1 : 48 ≤ c.toNat := hD.1
              have hD2 : c.toNat ≤ 57 := hD.2
              have wx : Word x := by rw [← hx]; exact rh_word _
              have wy : Word y := by rw [← hy]; exact rl_word _
              have hv : nv x y = (pv (l.take k) : Int) := by rw [← hx, ← hy]; exact nv_r hroom
              have cT := fun u : World => rtimes_any x y 10 wx wy word_lit u
              have hs1 : (pv (l.take (k + 1)) : Int) = nv x y * 10 + ((c.toNat : Int) - 48) := by rw [htk, pv_snoc, hv]; omega
              have hge : (pv (l.take (k + 1)) : Int) ≤ (pv l : Int) := by
                have h2 := pv_le_append (l.take (k + 1)) (l.drop (k + 1))
                rw [List.take_append_drop] at h2
                omega
              have hno : room (pv l : Int) = false → ph = 0 ∧ pl = 0 ∧ pe = 10 := fun h => by
                obtain ⟨e1, e2, e3⟩ := par_big HB.out h
                exact FIN.out 10 e1 e2 e3
              have y1 : IntKind.u8.wrap ((c.toNat : Int) - 48) = (c.toNat : Int) - 48 := by rw [IntKind.wrap_u8]; omega
              have y2 : IntKind.u64.wrap ((c.toNat : Int) - 48) = (c.toNat : Int) - 48 := by rw [IntKind.wrap_u64]; omega
              have i0 : (0 : Int) ≤ (k : Int) := by omega
              have i1 : (k : Int) < (s.size : Int) := by omega
              have v1 : IntKind.i64.wrap ((k : Int) + 1) = (k : Int) + 1 := IntWalk.i64_in _ (by omega)
              have wd : Word ((c.toNat : Int) - 48) := ⟨by omega, by omega⟩
              obtain ⟨a1, a2, a3⟩ := T1.2.2.1.num
              have HNO := hideIt hno
              have HGE := hideIt hge
              clear hx hy hroom hD hcl htk hkl hno
              cases hr : room (nv x y * 10)
              · have hno : room (pv l : Int) = false := by
                  have h1 := room_not.1 hr
                  have h2 := nv_word wx wy
                  exact room_not.2 (by omega)
                obtain ⟨e1, e2, e3⟩ := HNO.out hno
                subst e1 e2 e3
                have cT2 := fun u : World => (cT u).mono fun e w' hf => Fit.no hr hf
                clear hno hr hs1 hv cT hge wd
                go_upto_region 14 with (first
                  | (go_at_call 95; refine (cT2 _).mono ?_; rintro e w2 ⟨rfl, h2⟩))
                have T2 := (T1.call h2).past (.cells #[.int .u64 0, .int .u64 0] 45)
                generalize w2.alloc (.cells #[.int .u64 0, .int .u64 0] 45) = V at *
                clear a1 a2 a3
                obtain ⟨p1, p2, p3⟩ := T2.1.num
                have p4 := T2.1.free 0
                have p5 := T2.1.free 1
                obtain ⟨q1, q2, q3⟩ := T2.2.1.num
                go_wp2
                have ee := (T2.1.wrote 0 (.int .u64 0)).wrote 1 (.int .u64 0)
                have e0 := ee.read 0
                have e1 := ee.read 1
                simp only [Nat.reduceLT, List.setIfInBounds_toArray, List.set_cons_zero, List.set_cons_succ, List.getElem?_toArray, List.getElem?_cons_zero, List.getElem?_cons_succ] at e0 e1
                exact bodyPost_ret (v := .tuple #[.agg #[.int .u64 0, .int .u64 0], .int .i64 10]) (by simp [results, Tryd.results75, go_sem, e0, e1]) rfl
                  ⟨rfl, by repeat (first | exact T2.2.2.2 | refine Below.setCell ?_ (by simp) _)⟩
              · have hrr := room_iff.1 hr
                obtain ⟨th, tl, wt1, wt0, ht⟩ := halves hrr.1 hrr.2
                have cT2 := fun u : World => (cT u).mono fun e w' hf => Fit.yes (h := th) (l := tl) ht wt1 wt0 hf
                have cA := fun u : World => radd_any th tl 0 ((c.toNat : Int) - 48) wt1 wt0 word_lit wd u
                rw [ht, show nv 0 ((c.toNat : Int) - 48) = (c.toNat : Int) - 48 by unfold nv; omega, ← hs1] at cA
                obtain ⟨sh, hsh⟩ : ∃ sh, rh (pv (l.take (k + 1)) : Int) = sh := ⟨_, rfl⟩
                obtain ⟨sl, hsl2⟩ : ∃ sl, rl (pv (l.take (k + 1)) : Int) = sl := ⟨_, rfl⟩
                obtain ⟨se, hse⟩ : ∃ se, re (pv (l.take (k + 1)) : Int) = se := ⟨_, rfl⟩
                have hF : ∀ B u, Fit (pv (l.take (k + 1)) : Int) B u = fun e w' => e = .returned (.tuple #[.agg #[.int .u64 sh, .int .u64 sl], .int .i64 se]) ∧ Below B u w' := fun B u => by unfold Fit; rw [hsh, hsl2, hse]
                simp only [hF] at cA
                have HSH := hideIt hsh
                have HSL := hideIt hsl2
                have HSE := hideIt hse
                clear hF hsh hsl2 hse hrr hr ht hs1 hv cT hge wd
                go_upto_region 14 with (first
                  | (go_at_call 95; refine (cT2 _).mono ?_; rintro e w2 ⟨rfl, h2⟩))
                have T2 := (T1.call h2).past (.cells #[.int .u64 th, .int .u64 tl] 45)
                have R2 := Box.made w2 45 #[.int .u64 th, .int .u64 tl]
                generalize w2.alloc (.cells #[.int .u64 th, .int .u64 tl] 45) = V at *
                clear a1 a2 a3 cT2
                obtain ⟨r1, r2, r3⟩ := R2.num
                go_upto_region 16 with fail
                go_cut [10, 11] from 59 to 70 (fun s10 s11 wx => ∃ g, s10 = .pointer (some ⟨g, 0, none⟩) ∧ s11 = .int .i64 se ∧ Box wx g 45 #[.int .u64 sh, .int .u64 sl] ∧ w.heap.size + 2 < g ∧ Three w x y wx)
                case first =>
                  have hv2 : w.heap.size + 2 < V.heap.size := T2.2.2.1.inside
                  go_region_held3 (fun w' => Below V.heap.size V w' ∧ w'.cell? ⟨w2.heap.size, 0, none⟩ = some (.int .u64 th) ∧ w'.cell? ⟨w2.heap.size, 1, none⟩ = some (.int .u64 tl))
                    (exact (fun (hb : Below V.heap.size V _) => ⟨hb, (R2.call hb).read 0, (R2.call hb).read 1⟩)
                      (by repeat (first
                        | exact Below.refl _ _
                        | exact chain (by repeat (first | exact Below.refl _ _ | apply Below.drew | refine Below.alloc ?_ (by simp) _)) hb3
                        | apply Below.drew
                        | refine Below.alloc ?_ (by first | exact Nat.le_refl _ | (have := hb3.size; simp at this ⊢; omega)) _
                        | refine Below.setCell ?_ (by first | exact Nat.le_refl _ | (have := hb3.size; simp at this ⊢; omega)) _)))
                    (first
                      | (go_at_call 76; ((with_reducible refine (cA _).mono ?_); rintro e w3 ⟨rfl, hb3⟩)
                         first
                           | (have G3 := ((Box.made V 45 #[.int .u64 0, .int .u64 0]).draw).call hb3
                              obtain ⟨g1, g2, g3⟩ := G3.num
                              have g4 := G3.free 0
                              have g5 := G3.free 1)
                           | (have G3 := (Box.made V.drew 45 #[.int .u64 0, .int .u64 0]).call hb3
                              obtain ⟨g1, g2, g3⟩ := G3.num
                              have g4 := G3.free 0
                              have g5 := G3.free 1)
                           | skip))
                  all_goals go_wp2_with fail
                  all_goals go_meet
                  all_goals first
                    | exact ⟨_, rfl, rfl, Box.made _ _ _, by have := hb3.size; simp at this; omega, (T2.drew.call hb3).past _⟩
                    | exact ⟨_, rfl, rfl, (G3.wrote 0 _).wrote 1 _, hv2, (((T2.past _).drew.call hb3).set_ hv2 _).set_ hv2 _⟩
                    | exact ⟨_, rfl, rfl, (G3.wrote 0 _).wrote 1 _, hv2, (((T2.drew.past _).call hb3).set_ hv2 _).set_ hv2 _⟩
                case rest =>
                  obtain ⟨g, rfl, rfl, G4, hg, T4⟩ := hcut
                  clear r1 r2 r3 R2 T2 cA T1
                  obtain ⟨p1, p2, p3⟩ := T4.1.num
                  have p4 := T4.1.free 0
                  have p5 := T4.1.free 1
                  obtain ⟨q1, q2, q3⟩ := T4.2.1.num
                  cases hr2 : room (pv (l.take (k + 1)) : Int)
                  · have hno : room (pv l : Int) = false := by
                      have h1 := room_not.1 hr2
                      have h2 := HGE.out
                      exact room_not.2 (by omega)
                    obtain ⟨e1, e2, e3⟩ := HNO.out hno
                    have q4 : se = 10 := by rw [← HSE.out, re_no hr2]
                    subst e1 e2 e3 q4
                    clear hno hr2
                    go_wp2
                    have ee := (T4.1.wrote 0 (.int .u64 0)).wrote 1 (.int .u64 0)
                    have e0 := ee.read 0
                    have e1 := ee.read 1
                    simp only [Nat.reduceLT, List.setIfInBounds_toArray, List.set_cons_zero, List.set_cons_succ, List.getElem?_toArray, List.getElem?_cons_zero, List.getElem?_cons_succ] at e0 e1
                    exact bodyPost_ret (v := .tuple #[.agg #[.int .u64 0, .int .u64 0], .int .i64 10]) (by simp [results, Tryd.results75, go_sem, e0, e1]) rfl
                      ⟨rfl, by repeat (first | exact T4.2.2.2 | refine Below.setCell ?_ (by simp) _)⟩
                  · have q4 : se = 0 := by rw [← HSE.out, re_yes hr2]
                    subst q4
                    have HR2 := hideIt hr2
                    clear hr2
                    obtain ⟨r1, r2, r3⟩ := T4.2.2.1.num
                    have r4 := T4.2.2.1.free 0
                    have r5 := T4.2.2.1.free 1
                    obtain ⟨g1, g2, g3⟩ := G4.num
                    go_wp2
                    go_roundg (s.size - (k + 1))
                    case measure => have := HG.out; omega
                    case rel => exact ⟨k + 1, sh, sl, by omega, rfl, by go_num, HSH.out, HSL.out, HR2.out, (T4.1.apart (by simp) _).apart (by simp) _, (T4.2.1.apart (by simp) _).apart (by simp) _, (T4.2.2.1.wrote 0 _).wrote 1 _, (T4.2.2.2.setCell (by simp) _).setCell (by simp) _⟩
            · have e : k = s.size := by omega
              subst e
              have ht : l.take s.size = l := List.take_of_length_le (by omega)
              rw [ht] at hx hy hroom
              obtain ⟨e1, e2, e3⟩ := par_yes HB.out hroom
              have q1 : ph = x := by rw [← HPH.out, e1, hx]
              have q2 : pl = y := by rw [← HPL.out, e2, hy]
              have q3 : pe = 0 := by rw [← HPE.out, e3]
              subst q1 q2 q3
              clear ht hx hy hroom e1 e2 e3
              obtain ⟨p1, p2, p3⟩ := T1.1.num
              have p4 := T1.1.free 0
              have p5 := T1.1.free 1
              obtain ⟨r1, r2, r3⟩ := T1.2.2.1.num
              go_wp2
              have ee := (T1.1.wrote 0 (.int .u64 ph)).wrote 1 (.int .u64 pl)
              have e0 := ee.read 0
              have e1 := ee.read 1
              simp only [Nat.reduceLT, List.setIfInBounds_toArray, List.set_cons_zero, List.set_cons_succ, List.getElem?_toArray, List.getElem?_cons_zero, List.getElem?_cons_succ] at e0 e1
              exact bodyPost_ret (v := .tuple #[.agg #[.int .u64 ph, .int .u64 pl], .int .i64 0]) (by simp [results, Tryd.results75, go_sem, e0, e1]) rfl
                ⟨rfl, by repeat (first | exact T1.2.2.2 | refine Below.setCell ?_ (by simp) _)⟩
end Go.Proofs.YthindbmgnkohhaaDoor
