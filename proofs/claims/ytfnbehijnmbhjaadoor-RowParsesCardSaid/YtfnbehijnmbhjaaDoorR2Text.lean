/-
  paymasterref02.Text, walked: by tens, the last digit behind the text of the others.
-/
import Derived.Test.YtfnbehijnmbhjaaDoorD2Text
import Derived.Test.YtfnbehijnmbhjaaDoorR1Over
import Derived.Laws.Concat
import Derived.IntWalk
namespace Go.Proofs.YtfnbehijnmbhjaaDoor
set_option linter.unusedVariables false
set_option linter.unusedSimpArgs false
set_option maxRecDepth 10000
open Go.RowKit

theorem rover_ten {m : Nat} (hm : (m : Int) < 340282366920938463463374607431768211456) (w : World) :
    Calls Tryd.prog 58 #[.agg #[.int .u64 (rh (m : Int)), .int .u64 (rl (m : Int))], .int .u64 10] w fun e w' =>
      e = .returned (.tuple #[.agg #[.int .u64 (rh ((m / 10 : Nat) : Int)), .int .u64 (rl ((m / 10 : Nat) : Int))], .int .u64 ((m % 10 : Nat) : Int), .int .i64 0]) ∧ Below w.heap.size w w' := by
  have hr : room (m : Int) = true := room_iff.2 (by omega)
  refine (rover_any _ _ 10 (rh_word _) (rl_word _) word_lit w).mono fun e w' ⟨he, hb⟩ => ⟨?_, hb⟩
  rw [he, nv_r hr]
  simp [orest, oerr, Int.natCast_ediv, Int.natCast_emod]

set_option maxHeartbeats 4000000 in
theorem rtext_nat : ∀ (n m : Nat), m ≤ n → (m : Int) < 340282366920938463463374607431768211456 → ∀ (w : World),
    Calls Tryd.prog 33 #[.agg #[.int .u64 (rh (m : Int)), .int .u64 (rl (m : Int))]] w (Tells (.string (str (decL m))) w.heap.size w) := by
  intro n
  induction n using Nat.strongRecOn with
  | ind n ih =>
    intro m hmn hm w
    have cO := fun u : World => rover_ten hm u
    have h39 := decL_39 (n := m) (by omega)
    obtain ⟨q, hq⟩ : ∃ q : Nat, m / 10 = q := ⟨_, rfl⟩
    obtain ⟨r, hr⟩ : ∃ r : Nat, m % 10 = r := ⟨_, rfl⟩
    rw [hq, hr] at cO
    have hdn : ((dig m).toNat : Int) = 48 + (r : Int) := by rw [dig_nat, hr]; omega
    have hz := num_none (m := q) (room_iff.2 ⟨by omega, by omega⟩)
    have cR : q ≠ 0 → ∀ u : World, Calls Tryd.prog 33 #[.agg #[.int .u64 (rh (q : Int)), .int .u64 (rl (q : Int))]] u (Tells (.string (str (decL q))) u.heap.size u) :=
      fun h u => ih (n - 1) (by omega) q (by omega) (by omega) u
    obtain ⟨x, hx⟩ : ∃ x : Int, rh (m : Int) = x := ⟨_, rfl⟩
    obtain ⟨y, hy⟩ : ∃ y : Int, rl (m : Int) = y := ⟨_, rfl⟩
    obtain ⟨x', hx'⟩ : ∃ x' : Int, rh (q : Int) = x' := ⟨_, rfl⟩
    obtain ⟨y', hy'⟩ : ∃ y' : Int, rl (q : Int) = y' := ⟨_, rfl⟩
    rw [hx, hy] at cO ⊢
    rw [hx', hy'] at cO cR hz
    obtain ⟨d, hd⟩ : ∃ d, dig m = d := ⟨_, rfl⟩
    have L0 : Below w.heap.size w (w.alloc (.cells #[.int .u64 x, .int .u64 y] 24)) := by repeat (first | exact Below.refl _ _ | apply Below.drew | apply below_drewN | refine Below.alloc ?_ (by simp; try omega) _ | refine Below.setCell ?_ (by simp; try omega) _)
    have y1 : IntKind.u8.wrap (r : Int) = (r : Int) := by rw [IntKind.wrap_u8]; omega
    have y2 : IntKind.u8.wrap (48 + (r : Int)) = 48 + (r : Int) := by rw [IntKind.wrap_u8]; omega
    have hq2 := fun u : World => run_eql_num x' y' 0 0 u
    have hz2 : (x' == 0 && y' == 0) = decide (q = 0) := by
      have h1 := congrArg Bool.not hz
      rw [Bool.not_not] at h1
      rw [h1]
      by_cases h : q = 0 <;> simp [h]
    rw [hz2] at hq2
    clear hz hz2 hx hy hx' hy'
    by_cases h0 : q = 0
    · have hm10 : m < 10 := by omega
      have hdl : decL m = [d] := by rw [decL_small hm10, hd]
      rw [hdl]
      rw [decide_eq_true h0] at hq2
      rw [hd] at hdn
      clear hdl hm10 cR ih hq hr hm hmn hd h39
      go_enter Tryd.func33, Tryd.ntmps33
      go_upto_region 2 with (first
        | (go_at_call 58; refine (cO _).mono ?_; rintro e w1 ⟨rfl, h1⟩))
      have B1 := Box.made w1 24 #[.int .u64 x', .int .u64 y']
      have L1 := chainA (chain L0 h1) (.cells #[.int .u64 x', .int .u64 y'] 24)
      generalize w1.alloc (.cells #[.int .u64 x', .int .u64 y'] 24) = W at *
      have E1 := Box.made W 5 #[.int .u8 (48 + (r : Int))]
      have hl : Lies (W.alloc (.cells #[.int .u8 (48 + (r : Int))] 5)) W.heap.size 0 [d] := fun i hi => by
        simp at hi
        subst hi
        rw [E1.read]
        simp [hdn]
      have hconv : (convert 76 9 (.slice (some ⟨W.heap.size, 0, none⟩) 1 1)).run Tryd.prog (W.alloc (.cells #[.int .u8 (48 + (r : Int))] 5)) = .ok (.string (str [d])) (W.alloc (.cells #[.int .u8 (48 + (r : Int))] 5)) := conv_lies hl 1
      have B2 := B1.past (.cells #[.int .u8 (48 + (r : Int))] 5)
      obtain ⟨p1, p2, p3⟩ := B2.num
      have L2 := chainA L1 (.cells #[.int .u8 (48 + (r : Int))] 5)
      clear cO hl hdn
      go_wp2
      go_ret
      exact ⟨rfl, L2⟩
    · have hm10 : 10 ≤ m := by omega
      have hdl : decL m = decL q ++ [d] := by rw [decL_big hm10, hq, hd]
      have hql : (decL q).length ≤ 39 := decL_39 (by omega)
      rw [hdl]
      rw [decide_eq_false h0] at hq2
      rw [hd] at hdn
      have cR2 := cR h0
      obtain ⟨lq, hlq⟩ : ∃ lq, decL q = lq := ⟨_, rfl⟩
      rw [hlq] at cR2 hql ⊢
      have hcat : ∀ u : World, (Op.stringOp .add (str lq) (str [d])).run Tryd.prog u = .ok (.string (str lq ++ str [d])) u := fun u => run_string_add_sum u _ _ (by rw [str_size, str_size]; simp; omega)
      rw [← str_append] at hcat
      clear hdl hm10 cR ih hq hr hm hmn hd h39 hlq hql
      go_enter Tryd.func33, Tryd.ntmps33
      go_upto_region 2 with (first
        | (go_at_call 58; refine (cO _).mono ?_; rintro e w1 ⟨rfl, h1⟩))
      have B1 := Box.made w1 24 #[.int .u64 x', .int .u64 y']
      have L1 := chainA (chain L0 h1) (.cells #[.int .u64 x', .int .u64 y'] 24)
      generalize w1.alloc (.cells #[.int .u64 x', .int .u64 y'] 24) = W at *
      have E1 := Box.made W 5 #[.int .u8 (48 + (r : Int))]
      have hl : Lies (W.alloc (.cells #[.int .u8 (48 + (r : Int))] 5)) W.heap.size 0 [d] := fun i hi => by
        simp at hi
        subst hi
        rw [E1.read]
        simp [hdn]
      have hconv : (convert 76 9 (.slice (some ⟨W.heap.size, 0, none⟩) 1 1)).run Tryd.prog (W.alloc (.cells #[.int .u8 (48 + (r : Int))] 5)) = .ok (.string (str [d])) (W.alloc (.cells #[.int .u8 (48 + (r : Int))] 5)) := conv_lies hl 1
      have B2 := B1.past (.cells #[.int .u8 (48 + (r : Int))] 5)
      obtain ⟨p1, p2, p3⟩ := B2.num
      have L2 := chainA L1 (.cells #[.int .u8 (48 + (r : Int))] 5)
      clear cO hl hdn
      go_wp2_with (first
        | (go_at_call 33; refine (cR2 _).mono ?_; rintro e w2 ⟨rfl, h2⟩))
      go_ret
      exact ⟨rfl, chain L2 h2⟩

theorem rtext_any (ah al : Int) (a1 : Word ah) (a0 : Word al) (w : World) :
    Calls Tryd.prog 33 #[.agg #[.int .u64 ah, .int .u64 al]] w (Tells (.string (str (decL (nv ah al).toNat))) w.heap.size w) := by
  have hw := nv_word a1 a0
  have h := rtext_nat (nv ah al).toNat (nv ah al).toNat (Nat.le_refl _) (by omega) w
  rw [show (((nv ah al).toNat : Nat) : Int) = nv ah al by omega, rh_nv a1 a0, rl_nv a1 a0] at h
  exact h

end Go.Proofs.YtfnbehijnmbhjaaDoor
