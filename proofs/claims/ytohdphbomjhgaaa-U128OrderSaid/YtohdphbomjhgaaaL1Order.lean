/-
  The law of layer 1: to compare is an order, that of the bytes, and what is added to both numbers changes nothing of it; any three numbers, no condition.
-/
import Derived.Test.YtohdphbomjhgaaaL1Back
import Derived.Test.YtohdphbomjhgaaaU1Lex
namespace Go.Proofs.Ytohdphbomjhgaaa
set_option linter.unusedVariables false
set_option linter.unusedSimpArgs false
open Go.ChangeShapes Go.WideShapes Go.ChangeAt Go.RowKit

theorem cmpI_le {a b : Int} : cmpI a b ≤ 0 ↔ a ≤ b := by
  unfold cmpI; split
  · constructor <;> intro <;> omega
  · split <;> constructor <;> intro <;> omega
theorem cmpI_add (a b c : Int) : cmpI (a + c) (b + c) = cmpI a b := by
  rcases Int.lt_trichotomy a b with h | h | h
  · rw [cmpI_lt h, cmpI_lt (by omega)]
  · subst h; rw [cmpI_eq, cmpI_eq]
  · rw [cmpI_gt h, cmpI_gt (by omega)]
/-- Three numbers in their blocks, nothing else turned. -/
def ABC (w : World) (ah al bh bl ch cl : Int) (w' : World) : Prop := Box w' w.heap.size 24 #[.int .u64 ah, .int .u64 al] ∧ Box w' (w.heap.size + 1) 24 #[.int .u64 bh, .int .u64 bl] ∧
  Box w' (w.heap.size + 1 + 1) 24 #[.int .u64 ch, .int .u64 cl] ∧ Below w.heap.size w w'
section
variable {w W w' : World} {ah al bh bl ch cl : Int}
theorem ABC.call (h : ABC w ah al bh bl ch cl W) (hb : Below W.heap.size W w') : ABC w ah al bh bl ch cl w' := ⟨h.1.call hb, h.2.1.call hb, h.2.2.1.call hb, chain h.2.2.2 hb⟩
theorem ABC.past (h : ABC w ah al bh bl ch cl W) (o : Obj) : ABC w ah al bh bl ch cl (W.alloc o) := ⟨h.1.past o, h.2.1.past o, h.2.2.1.past o, chainA h.2.2.2 o⟩
theorem ABC.drew (h : ABC w ah al bh bl ch cl W) : ABC w ah al bh bl ch cl W.drew := ⟨h.1.draw, h.2.1.draw, h.2.2.1.draw, h.2.2.2.drew⟩
theorem ABC.cells (h : ABC w ah al bh bl ch cl W) : W.cell? ⟨w.heap.size, 0, none⟩ = some (.int .u64 ah) ∧ W.cell? ⟨w.heap.size, 1, none⟩ = some (.int .u64 al) ∧ W.cell? ⟨w.heap.size + 1, 0, none⟩ = some (.int .u64 bh) ∧
    W.cell? ⟨w.heap.size + 1, 1, none⟩ = some (.int .u64 bl) ∧ W.cell? ⟨w.heap.size + 1 + 1, 0, none⟩ = some (.int .u64 ch) ∧ W.cell? ⟨w.heap.size + 1 + 1, 1, none⟩ = some (.int .u64 cl) ∧
    w.heap.size < W.heap.size ∧ w.heap.size + 1 < W.heap.size ∧ w.heap.size + 1 + 1 < W.heap.size :=
  ⟨h.1.read 0, h.1.read 1, h.2.1.read 0, h.2.1.read 1, h.2.2.1.read 0, h.2.2.1.read 1, h.1.inside, h.2.1.inside, h.2.2.1.inside⟩
end

set_option maxRecDepth 100000 in
set_option maxHeartbeats 16000000 in
theorem order_walk (ah al bh bl ch cl : Int) (a1 : Word ah) (a0 : Word al) (b1 : Word bh) (b0 : Word bl) (c1 : Word ch) (c0 : Word cl) (w : World) :
    Calls Try.prog 8 #[.agg #[.int .u64 ah, .int .u64 al], .agg #[.int .u64 bh, .int .u64 bl], .agg #[.int .u64 ch, .int .u64 cl]] w (Tells (.bool true) w.heap.size w) := by
  have P0 : ABC w ah al bh bl ch cl (((w.alloc (.cells #[.int .u64 ah, .int .u64 al] 24)).alloc (.cells #[.int .u64 bh, .int .u64 bl] 24)).alloc (.cells #[.int .u64 ch, .int .u64 cl] 24)) := by
    refine ⟨((Box.made w 24 #[.int .u64 ah, .int .u64 al]).past _).past _, ?_, ?_, by repeat (first | exact Below.refl _ _ | apply Below.drew | apply below_drewN | refine Below.alloc ?_ (by simp; try omega) _ | refine Below.setCell ?_ (by simp; try omega) _)⟩
    · have := (Box.made (w.alloc (.cells #[.int .u64 ah, .int .u64 al] 24)) 24 #[.int .u64 bh, .int .u64 bl]).past (.cells #[.int .u64 ch, .int .u64 cl] 24)
      simpa using this
    · have := Box.made ((w.alloc (.cells #[.int .u64 ah, .int .u64 al] 24)).alloc (.cells #[.int .u64 bh, .int .u64 bl] 24)) 24 #[.int .u64 ch, .int .u64 cl]
      simpa using this
  obtain ⟨ab, hab⟩ : ∃ x, cmpI (nv ah al) (nv bh bl) = x := ⟨_, rfl⟩
  obtain ⟨bc, hbc⟩ : ∃ x, cmpI (nv bh bl) (nv ch cl) = x := ⟨_, rfl⟩
  obtain ⟨ac, hac⟩ : ∃ x, cmpI (nv ah al) (nv ch cl) = x := ⟨_, rfl⟩
  obtain ⟨ba, hba⟩ : ∃ x, cmpI (nv bh bl) (nv ah al) = x := ⟨_, rfl⟩
  have cAB := fun u : World => cmp_any ah al bh bl a1 a0 b1 b0 u
  have cBC := fun u : World => cmp_any bh bl ch cl b1 b0 c1 c0 u
  have cAC := fun u : World => cmp_any ah al ch cl a1 a0 c1 c0 u
  have cBA := fun u : World => cmp_any bh bl ah al b1 b0 a1 a0 u
  rw [hab] at cAB
  rw [hbc] at cBC
  rw [hac] at cAC
  rw [hba] at cBA
  have bAB := cmpI_bd (nv ah al) (nv bh bl)
  have bBC := cmpI_bd (nv bh bl) (nv ch cl)
  have bAC := cmpI_bd (nv ah al) (nv ch cl)
  have bBA := cmpI_bd (nv bh bl) (nv ah al)
  rw [hab] at bAB
  rw [hbc] at bBC
  rw [hac] at bAC
  rw [hba] at bBA
  have HAB := hideIt hab
  have HBC := hideIt hbc
  have HAC := hideIt hac
  have HBA := hideIt hba
  clear hab hbc hac hba
  obtain ⟨sa, hsa⟩ : ∃ s, textOf ah al = s := ⟨_, rfl⟩
  obtain ⟨sb, hsb⟩ : ∃ s, textOf bh bl = s := ⟨_, rfl⟩
  have tA := fun u : World => bytes_any ah al a1 a0 u
  have tB := fun u : World => bytes_any bh bl b1 b0 u
  rw [show strOfNums (bytesOf ah al) = sa from hsa] at tA
  rw [show strOfNums (bytesOf bh bl) = sb from hsb] at tB
  have HSA := hideIt hsa
  have HSB := hideIt hsb
  clear hsa hsb
  go_enter Try.func8, Try.ntmps8
  go_upto_region 3 with (first
    | (go_at_call 30; refine (awake_any _).mono ?_; rintro e w1 ⟨rfl, h1⟩))
  have P1 := P0.call h1
  clear P0 h1
  go_cut [7, 8, 9] from 18 to 124 (fun s7 s8 s9 wx => s7 = .int .i64 ab ∧ s8 = .int .i64 bc ∧ s9 = .int .i64 ac ∧ ABC w ah al bh bl ch cl wx)
  case first =>
    go_region_held3 (fun w' => Below w1.heap.size w1 w' ∧ w'.cell? ⟨w.heap.size, 0, none⟩ = some (.int .u64 ah) ∧ w'.cell? ⟨w.heap.size, 1, none⟩ = some (.int .u64 al) ∧ w'.cell? ⟨w.heap.size + 1, 0, none⟩ = some (.int .u64 bh) ∧
        w'.cell? ⟨w.heap.size + 1, 1, none⟩ = some (.int .u64 bl) ∧ w'.cell? ⟨w.heap.size + 1 + 1, 0, none⟩ = some (.int .u64 ch) ∧ w'.cell? ⟨w.heap.size + 1 + 1, 1, none⟩ = some (.int .u64 cl))
      (first
        | exact keep_first (by assumption) (by assumption) (fun hb => ⟨hb, (P1.call hb).1.read 0, (P1.call hb).1.read 1, (P1.call hb).2.1.read 0, (P1.call hb).2.1.read 1, (P1.call hb).2.2.1.read 0, (P1.call hb).2.2.1.read 1⟩)
        | exact ⟨(Below.refl _ _).drew, P1.1.read 0, P1.1.read 1, P1.2.1.read 0, P1.2.1.read 1, P1.2.2.1.read 0, P1.2.2.1.read 1⟩)
      (first
        | ((with_reducible refine (cAB _).mono ?_); rintro e v1 ⟨rfl, k1⟩)
        | ((with_reducible refine (cBC _).mono ?_); rintro e v2 ⟨rfl, k2⟩)
        | ((with_reducible refine (cAC _).mono ?_); rintro e v3 ⟨rfl, k3⟩))
    all_goals go_wp2_with fail
    all_goals go_meet
    have hh : ∃ Q, Below w1.heap.size w1 v3 ∧ Q := ⟨_, by assumption⟩
    obtain ⟨Q, hh, -⟩ := hh
    exact ⟨rfl, rfl, rfl, P1.call hh⟩
  case rest =>
    obtain ⟨rfl, rfl, rfl, P2⟩ := hcut
    go_upto_region 4 with fail
    go_cut [62] from 18 to 124 (fun s wx => s = .bool false ∧ ABC w ah al bh bl ch cl wx)
    case first =>
      obtain ⟨p1, p2, p3, p4, p5, p6, p7, p8, p9⟩ := P2.cells
      obtain ⟨wA0, wA1⟩ := a1
      obtain ⟨wA2, wA3⟩ := a0
      obtain ⟨wB0, wB1⟩ := b1
      obtain ⟨wB2, wB3⟩ := b0
      have tr : ab ≤ 0 → bc ≤ 0 → ac ≤ 0 := by
        rw [← HAB.out, ← HBC.out, ← HAC.out, cmpI_le, cmpI_le, cmpI_le]; omega
      have TR := hideIt tr
      clear tr
      rcases Int.lt_trichotomy ah bh with h | h | h
      · have hn : ¬ (ah = bh) := by omega
        have e1 : ab = -1 := by rw [← HAB.out]; exact cmpI_lt (by unfold nv; omega)
        have e2 : ba = 1 := by rw [← HBA.out]; exact cmpI_gt (by unfold nv; omega)
        subst e1 e2
        by_cases hx : bc ≤ 0
        · have hy : decide (0 < ac) = false := decide_eq_false (by have := TR.out (by omega) hx; omega)
          (go_wp2_with (first | (go_at_call 14; refine (cBA _).mono ?_; rintro e v4 ⟨rfl, k4⟩)); go_meet; exact ⟨rfl, P2.call k4⟩)
        · (go_wp2_with (first | (go_at_call 14; refine (cBA _).mono ?_; rintro e v4 ⟨rfl, k4⟩)); go_meet; exact ⟨rfl, P2.call k4⟩)
      · subst h
        rcases Int.lt_trichotomy al bl with h | h | h
        · have hn : ¬ (al = bl) := by omega
          have e1 : ab = -1 := by rw [← HAB.out]; exact cmpI_lt (by unfold nv; omega)
          have e2 : ba = 1 := by rw [← HBA.out]; exact cmpI_gt (by unfold nv; omega)
          subst e1 e2
          by_cases hx : bc ≤ 0
          · have hy : decide (0 < ac) = false := decide_eq_false (by have := TR.out (by omega) hx; omega)
            (go_wp2_with (first | (go_at_call 14; refine (cBA _).mono ?_; rintro e v4 ⟨rfl, k4⟩)); go_meet; exact ⟨rfl, P2.call k4⟩)
          · (go_wp2_with (first | (go_at_call 14; refine (cBA _).mono ?_; rintro e v4 ⟨rfl, k4⟩)); go_meet; exact ⟨rfl, P2.call k4⟩)
        · subst h
          have e1 : ab = 0 := by rw [← HAB.out]; exact cmpI_eq _
          have e2 : ba = 0 := by rw [← HBA.out]; exact cmpI_eq _
          subst e1 e2
          by_cases hx : bc ≤ 0
          · have hy : decide (0 < ac) = false := decide_eq_false (by have := TR.out (by omega) hx; omega)
            (go_wp2_with (first | (go_at_call 14; refine (cBA _).mono ?_; rintro e v4 ⟨rfl, k4⟩)); go_meet; exact ⟨rfl, P2.call k4⟩)
          · (go_wp2_with (first | (go_at_call 14; refine (cBA _).mono ?_; rintro e v4 ⟨rfl, k4⟩)); go_meet; exact ⟨rfl, P2.call k4⟩)
        · have hn : ¬ (al = bl) := by omega
          have e1 : ab = 1 := by rw [← HAB.out]; exact cmpI_gt (by unfold nv; omega)
          have e2 : ba = -1 := by rw [← HBA.out]; exact cmpI_lt (by unfold nv; omega)
          subst e1 e2
          (go_wp2_with (first | (go_at_call 14; refine (cBA _).mono ?_; rintro e v4 ⟨rfl, k4⟩)); go_meet; exact ⟨rfl, P2.call k4⟩)
      · have hn : ¬ (ah = bh) := by omega
        have e1 : ab = 1 := by rw [← HAB.out]; exact cmpI_gt (by unfold nv; omega)
        have e2 : ba = -1 := by rw [← HBA.out]; exact cmpI_lt (by unfold nv; omega)
        subst e1 e2
        (go_wp2_with (first | (go_at_call 14; refine (cBA _).mono ?_; rintro e v4 ⟨rfl, k4⟩)); go_meet; exact ⟨rfl, P2.call k4⟩)
    case rest =>
      obtain ⟨rfl, P3⟩ := hcut
      clear P1 P2
      go_upto_region 6 with fail
      go_cut [10, 11] from 18 to 124 (fun s10 s11 wx => s10 = .string sa ∧ s11 = .string sb ∧ ABC w ah al bh bl ch cl wx)
      case first =>
        go_region_held3 (fun w' => Below wc.heap.size wc w' ∧ w'.cell? ⟨w.heap.size, 0, none⟩ = some (.int .u64 ah) ∧ w'.cell? ⟨w.heap.size, 1, none⟩ = some (.int .u64 al) ∧ w'.cell? ⟨w.heap.size + 1, 0, none⟩ = some (.int .u64 bh) ∧
            w'.cell? ⟨w.heap.size + 1, 1, none⟩ = some (.int .u64 bl))
          (first
            | exact keep_first (by assumption) (by assumption) (fun hb => ⟨hb, (P3.call hb).1.read 0, (P3.call hb).1.read 1, (P3.call hb).2.1.read 0, (P3.call hb).2.1.read 1⟩)
            | exact ⟨(Below.refl _ _).drew, P3.1.read 0, P3.1.read 1, P3.2.1.read 0, P3.2.1.read 1⟩)
          (first
            | ((with_reducible refine (tA _).mono ?_); rintro e v1 ⟨rfl, k1⟩)
            | ((with_reducible refine (tB _).mono ?_); rintro e v2 ⟨rfl, k2⟩))
        all_goals go_wp2_with fail
        all_goals go_meet
        have hh : ∃ Q, Below wc.heap.size wc v2 ∧ Q := ⟨_, by assumption⟩
        obtain ⟨Q, hh, -⟩ := hh
        exact ⟨rfl, rfl, P3.call hh⟩
      case rest =>
        obtain ⟨rfl, rfl, P4⟩ := hcut
        clear P3
        go_upto_region 7 with fail
        have hsz : sa.size = 16 := by rw [← HSA.out]; exact textOf_size _ _
        have hless : Op.bytesLess sa.toList sb.toList = decide (nv ah al < nv bh bl) := by rw [ByteArray.toList_eq, ByteArray.toList_eq, ← HSA.out, ← HSB.out]; exact textOf_less a1 a0 b1 b0
        have hsame : (sa.toList == sb.toList) = decide (nv ah al = nv bh bl) := by rw [ByteArray.toList_eq, ByteArray.toList_eq, ← HSA.out, ← HSB.out]; exact textOf_same a1 a0 b1 b0
        go_cut [85] from 18 to 124 (fun s wx => s = .bool false ∧ wx = wc)
        case first =>
          have HSZ := hideIt hsz
          clear hsz
          rcases Int.lt_trichotomy (nv ah al) (nv bh bl) with h | h | h
          · have e1 : ab = -1 := by rw [← HAB.out]; exact cmpI_lt h
            subst e1
            rw [decide_eq_true h] at hless
            rw [decide_eq_false (by omega)] at hsame
            have hsz := HSZ.out
            go_wp2
            go_meet
            exact ⟨rfl, rfl⟩
          · have e1 : ab = 0 := by rw [← HAB.out, h]; exact cmpI_eq _
            subst e1
            rw [decide_eq_false (by omega)] at hless
            rw [decide_eq_true h] at hsame
            have hsz := HSZ.out
            clear h
            go_wp2
            go_meet
            exact ⟨rfl, rfl⟩
          · have e1 : ab = 1 := by rw [← HAB.out]; exact cmpI_gt h
            subst e1
            rw [decide_eq_false (by omega)] at hless
            rw [decide_eq_false (by omega)] at hsame
            have hsz := HSZ.out
            go_wp2
            go_meet
            exact ⟨rfl, rfl⟩
        case rest =>
          obtain ⟨rfl, rfl⟩ := hcut
          clear hless hsame
          have cF := fun u : World => from_any sa (by omega) u
          have cF : ∀ u : World, Calls Try.prog 26 #[.string sa] u (fun e w' => e = .returned (.tuple #[.agg #[.int .u64 ah, .int .u64 al], .int .i64 0]) ∧ Below u.heap.size u w') := fun u => (cF u).mono fun e w' ⟨he, hb⟩ => ⟨by
            rw [he, ← HSA.out, textOf_fromH a1, textOf_fromL a0, textOf_fromE], hb⟩
          clear hsz
          obtain ⟨p1, p2, p3, p4, p5, p6, p7, p8, p9⟩ := P4.cells
          go_upto_region 10 with (first
            | (go_at_call 26; refine (cF _).mono ?_; rintro e v1 ⟨rfl, k1⟩))
          have P5 := (P4.call k1).past (.cells #[.int .u64 ah, .int .u64 al] 24)
          have X5 := Box.made v1 24 #[.int .u64 ah, .int .u64 al]
          generalize v1.alloc (.cells #[.int .u64 ah, .int .u64 al] 24) = W5 at *
          clear p1 p2 p3 p4 p5 p6 p7 p8 p9
          obtain ⟨p1, p2, p3, p4, p5, p6, p7, p8, p9⟩ := P5.cells
          go_upto_region 11 with (first
            | (go_at_call 10; refine (add_any ah al ch cl a1 a0 c1 c0 _).mono ?_; rintro e v2 ⟨rfl, k2⟩))
          have P6 := (P5.call k2).past (.cells #[.int .u64 (rh (nv ah al + nv ch cl)), .int .u64 (rl (nv ah al + nv ch cl))] 24)
          have X6 := (X5.call k2).past (.cells #[.int .u64 (rh (nv ah al + nv ch cl)), .int .u64 (rl (nv ah al + nv ch cl))] 24)
          have Y6 := Box.made v2 24 #[.int .u64 (rh (nv ah al + nv ch cl)), .int .u64 (rl (nv ah al + nv ch cl))]
          generalize v2.alloc (.cells #[.int .u64 (rh (nv ah al + nv ch cl)), .int .u64 (rl (nv ah al + nv ch cl))] 24) = W6 at *
          clear p1 p2 p3 p4 p5 p6 p7 p8 p9
          obtain ⟨p1, p2, p3, p4, p5, p6, p7, p8, p9⟩ := P6.cells
          go_upto_region 12 with (first
            | (go_at_call 10; refine (add_any bh bl ch cl b1 b0 c1 c0 _).mono ?_; rintro e v3 ⟨rfl, k3⟩))
          have P7 := (P6.call k3).past (.cells #[.int .u64 (rh (nv bh bl + nv ch cl)), .int .u64 (rl (nv bh bl + nv ch cl))] 24)
          have X7 := (X6.call k3).past (.cells #[.int .u64 (rh (nv bh bl + nv ch cl)), .int .u64 (rl (nv bh bl + nv ch cl))] 24)
          have Y7 := (Y6.call k3).past (.cells #[.int .u64 (rh (nv bh bl + nv ch cl)), .int .u64 (rl (nv bh bl + nv ch cl))] 24)
          have Z7 := Box.made v3 24 #[.int .u64 (rh (nv bh bl + nv ch cl)), .int .u64 (rl (nv bh bl + nv ch cl))]
          generalize v3.alloc (.cells #[.int .u64 (rh (nv bh bl + nv ch cl)), .int .u64 (rl (nv bh bl + nv ch cl))] 24) = W7 at *
          clear p1 p2 p3 p4 p5 p6 p7 p8 p9
          obtain ⟨p1, p2, p3, p4, p5, p6, p7, p8, p9⟩ := P7.cells
          obtain ⟨s1, s2, s3⟩ := X7.num
          obtain ⟨t1, t2, t3⟩ := Y7.num
          obtain ⟨u1, u2, u3⟩ := Z7.num
          cases hr1 : room (nv ah al + nv ch cl)
          · have e1 := re_no hr1
            clear hr1
            go_wp2
            go_ret
            exact ⟨rfl, P7.2.2.2⟩
          · cases hr2 : room (nv bh bl + nv ch cl)
            · have e1 := re_yes hr1
              have e2 := re_no hr2
              clear hr1 hr2
              go_wp2
              go_ret
              exact ⟨rfl, P7.2.2.2⟩
            · have e1 := re_yes hr1
              have e2 := re_yes hr2
              have cC := fun u : World => cmp_any _ _ _ _ (rh_word (nv ah al + nv ch cl)) (rl_word (nv ah al + nv ch cl)) (rh_word (nv bh bl + nv ch cl)) (rl_word (nv bh bl + nv ch cl)) u
              rw [nv_r hr1, nv_r hr2, cmpI_add, HAB.out] at cC
              clear hr1 hr2
              go_wp2_with (first
                | (go_at_call 14; refine (cC _).mono ?_; rintro e v4 ⟨rfl, k4⟩))
              go_ret
              exact ⟨rfl, (P7.call k4).2.2.2⟩

theorem u128Order_core (H : Type) (enc : TypeId × Value → H) (W : World) (base : Nat) (args : Array Value) (ds gs : List (DataW H)) (before : List MemPlace)
    (hval : ∀ (j : Nat) t v, Try.f8.params[j]? = some t → args[j]? = some v → Value.okWide Try.prog W .any base t v)
    (hW : DataW.Whole enc Try.prog Try.f8.params.toList Rows.u128OrderSpec.vars false W args.toList ds gs before) :
    gs = [] ∧ ds.length = 3 ∧ Calls Try.prog 8 args W (Tells (.bool true) W.heap.size W) := by
  obtain ⟨p, q, hA, hV, -, -, -⟩ := hW
  obtain ⟨rfl, rfl⟩ := trodVars_none hV
  have hA : DataW.TrodAll enc Try.prog W 0 (fun _ => true) true Try.f8.params.toList args.toList ds p := hA
  rw [Try.params8] at hA hval
  obtain ⟨v0, v1, v2, d0, d1, d2, p0, p1, p2, rfl, rfl, -, h0, h1, h2⟩ := trodAll_three hA
  obtain ⟨ah, al, rfl, a1, a0⟩ := open_num (hval 0 _ v0 rfl rfl) h0
  obtain ⟨bh, bl, rfl, b1, b0⟩ := open_num (hval 1 _ v1 rfl rfl) h1
  obtain ⟨ch, cl, rfl, c1, c0⟩ := open_num (hval 2 _ v2 rfl rfl) h2
  exact ⟨rfl, rfl, order_walk ah al bh bl ch cl a1 a0 b1 b0 c1 c0 W⟩

set_option maxRecDepth 100000 in
theorem u128Order_lifted (os : Os) (started : os.Started) (H : Type) (enc : TypeId × Value → H) :
    ReturnsInHanded {} Try.checked os 8 .any (Rows.u128OrderSpec.pre6 enc Try.prog Try.f8 Rows.u128OrderRow.domain false) (Rows.u128OrderSpec.post enc Try.prog Try.f8 false true false false) := by
  refine returnsInHanded_of_change (C := Try.checked) own_knob started (by kernel_rfl) Try.func8
    (ChangeSpec.witness6 (enc := enc) (C := Try.checked) false ⟨#[], #[.agg #[.int .u64 0, .int .u64 0], .agg #[.int .u64 0, .int .u64 0], .agg #[.int .u64 0, .int .u64 0]], []⟩ 8 (by kernel_rfl) (by kernel_rfl) (by kernel_rfl) (by kernel_rfl)) ?_
  intro W base args ds gs before hval hW _ _
  obtain ⟨hg, hlen, hc⟩ := u128Order_core H enc W base args ds gs before hval hW
  subst hg
  have hr : (Try.f8.params.toList.all fun t => Try.prog.readableRec t && decide (t < Try.prog.types.size)) = true := by kernel_rfl
  have hread : ∀ t ∈ Try.f8.params.toList, Try.prog.readableRec t = true ∧ t < Try.prog.types.size := fun t ht => by
    have h := List.all_eq_true.1 hr t ht
    rw [Bool.and_eq_true, decide_eq_true_eq] at h
    exact h
  refine hc.mono fun e W' ⟨he, hb⟩ => ?_
  subst he
  match ds, hlen with
  | [d0, d1, d2], _ => exact ⟨_, rfl, law_post laid_out Try.underlying4 rfl hread rfl hW rfl rfl rfl hb⟩

theorem u128Order_holds : Rows.U128OrderSaid :=
  OpenClaim.holds_of_wide 8 Try.f8 rfl rfl rfl rfl rfl rfl rfl ⟨rfl, rfl, rfl, rfl, rfl⟩ rfl rfl rfl rfl rfl (by kernel_rfl) Try.func8 (by kernel_rfl)
    (of_decide_eq_true (by kernel_rfl)) (by unfold Func.isWrapper; first | (rw [if_pos (by decide +kernel)]; kernel_rfl) | (rw [if_neg (by decide +kernel)]; exact ⟨rfl, rfl⟩))
    (fun os started H enc _ => u128Order_lifted os started H enc)

end Go.Proofs.Ytohdphbomjhgaaa
