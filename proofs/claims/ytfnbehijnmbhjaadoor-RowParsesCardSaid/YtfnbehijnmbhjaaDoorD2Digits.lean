/-
  decimal.digits, walked: the bytes of a number's text, in a block of its own.
-/
import Derived.Test.YtfnbehijnmbhjaaDoorD2Txt
import Derived.Test.YtfnbehijnmbhjaaDoorU1Over
import Derived.LoopTactic
import Derived.Deep.LoopGhost
import Derived.Deep.RegionHeld3
import Derived.Deep.RegionWith
import Derived.BigQuiet
import Derived.Deep.QuietTactic
import Derived.Deep.DeepCutAuto
import Derived.Deep.CutRange
namespace Go.Proofs.YtfnbehijnmbhjaaDoor
set_option linter.unusedVariables false
set_option linter.unusedSimpArgs false
set_option maxRecDepth 10000
open Go.RowKit

def u8s (l : List UInt8) : List Value := l.map fun c => .int .u8 (c.toNat : Int)
/-- Bytes lie in a block, from a place on. -/
def Lies (w : World) (g o : Nat) (l : List UInt8) : Prop := ∀ i, i < l.length → w.cell? ⟨g, o + i, none⟩ = some (.int .u8 ((l.map fun c => (c.toNat : Int)).getD i 0))
/-- 39 places, of which the last k are put. -/
def places (k : Nat) (tl : List UInt8) : Array Value := (List.replicate (39 - k) (Value.int .u8 0) ++ u8s tl).toArray
theorem places_size {k : Nat} {tl : List UInt8} (h : tl.length = k) (hk : k ≤ 39) : (places k tl).size = 39 := by simp [places, u8s]; omega
theorem places_put {k : Nat} {tl : List UInt8} (h : k < 39) (c : UInt8) : (places k tl).setIfInBounds (39 - (k + 1)) (.int .u8 (c.toNat : Int)) = places (k + 1) (c :: tl) := by
  unfold places u8s
  rw [show 39 - k = 39 - (k + 1) + 1 by omega, List.replicate_succ', List.setIfInBounds_toArray, List.append_assoc, List.set_append_right _ _ (by simp)]
  simp
theorem places_lies {w : World} {g : Nat} {t : TypeId} {k : Nat} {tl : List UInt8} (hb : Box w g t (places k tl)) (h : tl.length = k) : Lies w g (39 - k) tl := by
  intro i hi
  rw [hb.read]
  simp only [places, List.getElem?_toArray]
  rw [List.getElem?_append_right (by simp), List.length_replicate, show 39 - k + i - (39 - k) = i by omega]
  simp [u8s, List.getD, hi]
/-- What digits tells. -/
def DigitsTell (l : List UInt8) (B : Nat) (w : World) (e : Ending) (w' : World) : Prop :=
  ∃ g o, e = .returned (.slice (some ⟨g, o, none⟩) l.length l.length) ∧ B ≤ g ∧ g < w'.heap.size ∧ Lies w' g o l ∧ Below B w w'

abbrev nought39 : Array Value := #[.int .u8 0, .int .u8 0, .int .u8 0, .int .u8 0, .int .u8 0, .int .u8 0, .int .u8 0, .int .u8 0, .int .u8 0, .int .u8 0, .int .u8 0, .int .u8 0, .int .u8 0, .int .u8 0, .int .u8 0, .int .u8 0, .int .u8 0, .int .u8 0, .int .u8 0, .int .u8 0, .int .u8 0, .int .u8 0, .int .u8 0, .int .u8 0, .int .u8 0, .int .u8 0, .int .u8 0, .int .u8 0, .int .u8 0, .int .u8 0, .int .u8 0, .int .u8 0, .int .u8 0, .int .u8 0, .int .u8 0, .int .u8 0, .int .u8 0, .int .u8 0, .int .u8 0]
theorem nought_places : nought39 = places 0 [] := by
  unfold places u8s
  rw [show 39 - 0 = 39 from rfl]
  rfl

theorem equal_num (d : Nat) (x y a b : Int) (w : World) : (Op.equalIn (d + 2) 24 (.agg #[.int .u64 x, .int .u64 y]) (.agg #[.int .u64 a, .int .u64 b])).run Tryd.prog w = .ok (x == a && y == b) w := by
  rw [run_equalIn_agg w (d + 1) 24 _ _ (by kernel_rfl) (by kernel_rfl)]
  simp only [Program.fieldsOf, Tryd.underlying24, Op.eqFields]
  cases h : x == a <;> cases h2 : y == b <;> simp [go_sem, run_equalIn_int, Tryd.underlying22, h, h2]
theorem run_eql_num (x y a b : Int) (w : World) : (binOp .eql 24 (.agg #[.int .u64 x, .int .u64 y]) (.agg #[.int .u64 a, .int .u64 b])).run Tryd.prog w = .ok (.bool (x == a && y == b)) w := by
  rw [run_eql_struct, equal_num 9998]
  rfl
theorem run_neq_num (x y a b : Int) (w : World) : (binOp .neq 24 (.agg #[.int .u64 x, .int .u64 y]) (.agg #[.int .u64 a, .int .u64 b])).run Tryd.prog w = .ok (.bool (!(x == a && y == b))) w := by
  rw [run_neq_struct, equal_num 9998]
  rfl
/-- A number is none just if both halves are. -/
theorem num_none {m : Nat} (hr : room (m : Int) = true) : (!(rh (m : Int) == 0 && rl (m : Int) == 0)) = decide (m ≠ 0) := by
  have hv := nv_r hr
  obtain ⟨h0, h1⟩ := rh_word (m : Int)
  obtain ⟨l0, l1⟩ := rl_word (m : Int)
  unfold nv at hv
  generalize rh (m : Int) = x at *
  generalize rl (m : Int) = y at *
  by_cases hx : x = 0 <;> by_cases hy : y = 0
  · subst hx; subst hy
    have : m = 0 := by omega
    simp [this]
  · have : m ≠ 0 := by omega
    simp [hx, hy, this]
  · have : m ≠ 0 := by omega
    simp [hx, hy, this]
  · have : m ≠ 0 := by omega
    simp [hx, hy, this]
theorem guard_num : Tryd.prog.eqGuardType Tryd.prog.depth 24 = false := by kernel_rfl
theorem eq39 {f k : Nat} (h : f + k = 39) (hk : k = 0) : ((f : Int) == 39) = true := by rw [beq_iff_eq]; omega
theorem ne39 {f k : Nat} (h : f + k = 39) (hk : ¬ k = 0) : ((f : Int) == 39) = false := by rw [beq_eq_false_iff_ne]; omega
theorem lt39 {N : Nat} (h : (N : Int) < 340282366920938463463374607431768211456) : N < 10 ^ 39 :=
  Nat.lt_of_lt_of_le (show N < 340282366920938463463374607431768211456 by omega) (by decide)
theorem pos_ten {m f : Nat} (h : m < 10 ^ f) (h0 : m ≠ 0 ∨ f = 39) : 1 ≤ f := by
  rcases Nat.eq_zero_or_pos f with h1 | h1
  · subst h1; simp at h; omega
  · exact h1
theorem over_ten {m : Nat} (hm : (m : Int) < 340282366920938463463374607431768211456) (w : World) :
    Calls Tryd.prog 75 #[.agg #[.int .u64 (rh (m : Int)), .int .u64 (rl (m : Int))], .int .u64 10] w fun e w' =>
      e = .returned (.tuple #[.agg #[.int .u64 (rh ((m / 10 : Nat) : Int)), .int .u64 (rl ((m / 10 : Nat) : Int))], .int .u64 ((m % 10 : Nat) : Int), .int .i64 0]) ∧ Below w.heap.size w w' := by
  have hr : room (m : Int) = true := room_iff.2 (by omega)
  refine (over_any _ _ 10 (rh_word _) (rl_word _) word_lit w).mono fun e w' ⟨he, hb⟩ => ⟨?_, hb⟩
  rw [he, nv_r hr]
  simp [orest, oerr, Int.natCast_ediv, Int.natCast_emod]

set_option maxRecDepth 100000 in
set_option maxHeartbeats 4000000 in
theorem ddigits_any (ah al : Int) (a1 : Word ah) (a0 : Word al) (w : World) :
    Calls Tryd.prog 57 #[.agg #[.int .u64 ah, .int .u64 al]] w (DigitsTell (decL (nv ah al).toNat) w.heap.size w) := by
  obtain ⟨nA0, nA1⟩ := nv_word a1 a0
  have B0 : Box ((w.alloc (.cells #[.int .u64 ah, .int .u64 al] 24)).alloc (.cells nought39 125)) w.heap.size 24 #[.int .u64 ah, .int .u64 al] := (Box.made w _ _).past _
  have B1 : Box ((w.alloc (.cells #[.int .u64 ah, .int .u64 al] 24)).alloc (.cells nought39 125)) (w.heap.size + 1) 125 nought39 := by
    have := Box.made (w.alloc (.cells #[.int .u64 ah, .int .u64 al] 24)) 125 nought39
    simpa using this
  have L1 : Below w.heap.size w ((w.alloc (.cells #[.int .u64 ah, .int .u64 al] 24)).alloc (.cells nought39 125)) := by repeat (first | exact Below.refl _ _ | apply Below.drew | apply below_drewN | refine Below.alloc ?_ (by simp; try omega) _ | refine Below.setCell ?_ (by simp; try omega) _)
  obtain ⟨N, hN⟩ : ∃ N, (nv ah al).toNat = N := ⟨_, rfl⟩
  have hN' : nv ah al = (N : Int) := by omega
  have eh : ah = rh (N : Int) := by rw [← hN', rh_nv a1 a0]
  have el : al = rl (N : Int) := by rw [← hN', rl_nv a1 a0]
  have HNl := nA1
  rw [hN'] at HNl
  have hN39 := lt39 HNl
  have EH := hideIt eh
  have EL := hideIt el
  rw [hN]
  clear eh el hN hN' nA0 nA1
  go_enter Tryd.func57, Tryd.ntmps57
  go_wp2
  generalize (w.alloc (.cells #[.int .u64 ah, .int .u64 al] 24)).alloc (.cells nought39 125) = W at *
  rw [nought_places] at B1
  go_loopg [4] 39 (fun gk first wr => ∃ (f k m : Nat) (x y : Int) (tl : List UInt8), f + k = 39 ∧ gk = f ∧ first = .int .i64 (f : Int) ∧ tl.length = k ∧ decL N = pre k m ++ tl ∧ m < 10 ^ f ∧ m ≤ N ∧ rh (m : Int) = x ∧ rl (m : Int) = y ∧
    Box wr w.heap.size 24 #[.int .u64 x, .int .u64 y] ∧ Box wr (w.heap.size + 1) 125 (places k tl) ∧ Below w.heap.size w wr)
  case atStart => exact ⟨39, 0, N, ah, al, [], by omega, rfl, rfl, rfl, by rw [pre_zero, List.append_nil], hN39, Nat.le_refl _, EH.out.symm, EL.out.symm, B0, B1, L1⟩
  case round =>
    obtain ⟨f, k, m, x, y, tl, hk, hgk, rfl, htl, hpre, hm, hmN, ex, ey, hb0, hb1, hbel⟩ := hrel
    have HG := hideIt hgk
    have HT := hideIt htl
    have HP := hideIt hpre
    have hmr : (m : Int) < 340282366920938463463374607431768211456 := by omega
    have hne := num_none (room_iff.2 ⟨by omega, hmr⟩)
    rw [ex, ey] at hne
    have cO := fun u : World => over_ten hmr u
    rw [ex, ey] at cO
    clear hgk htl hpre B0 B1 L1 EH EL hN39 ex ey hmr
    obtain ⟨c0, c1, hlt⟩ := hb0.num
    have hb1s := hb1
    clear hb1
    go_upto_region 3 with fail
    go_cut [12] from 6 to 25 (fun s12 wx => s12 = .bool (decide (k = 0 ∨ m ≠ 0)) ∧ Below wr.heap.size wr wx)
    case first =>
      by_cases hk0 : k = 0
      · have hf2 : ((f : Int) == 39) = true := eq39 hk hk0
        go_quiet (fail)
        have hx : Below wr.heap.size wr (wr.drewN nq) := below_drewN (Below.refl _ _) _
        all_goals go_wp2_with fail
        all_goals go_meet
        exact ⟨by rw [decide_eq_true (Or.inl hk0)], hx⟩
      · have hf2 : ((f : Int) == 39) = false := ne39 hk hk0
        obtain ⟨e, he⟩ : ∃ e, decide (k = 0 ∨ m ≠ 0) = e := ⟨_, rfl⟩
        have hnq := fun u : World => run_neq_num x y 0 0 u
        rw [hne, show decide (m ≠ 0) = decide (k = 0 ∨ m ≠ 0) by simp [hk0], he] at hnq
        have HK := hideIt hk0
        have HE := hideIt he
        clear hk0 he hne cO
        go_region_held3 (fun w' => Below wr.heap.size wr w' ∧ w'.cell? ⟨w.heap.size, 0, none⟩ = some (.int .u64 x) ∧ w'.cell? ⟨w.heap.size, 1, none⟩ = some (.int .u64 y))
          (first
            | exact keep_first (by assumption) (by assumption) (fun hb => ⟨hb, (hb0.call hb).read 0, (hb0.call hb).read 1⟩)
            | exact ⟨(Below.refl _ _).drew, hb0.read 0, hb0.read 1⟩)
          (first
            | (go_at_call 72; refine (of_any _ _).mono ?_; rintro e u1 ⟨rfl, j1⟩))
        have hx : ∃ Q, Below wr.heap.size wr u1 ∧ Q := ⟨_, by assumption⟩
        obtain ⟨Q, hx, -⟩ := hx
        all_goals go_wp2_with fail
        all_goals go_meet
        exact ⟨by rw [HE.out], hx⟩
    case rest =>
      obtain ⟨rfl, hx⟩ := hcut
      have Z0 := hb0.call hx
      have Z1 := hb1s.call hx
      have Z2 := chain hbel hx
      clear hne hb0 hb1s hbel c0 c1
      by_cases hgo : k = 0 ∨ m ≠ 0
      · rw [decide_eq_true hgo]
        have hf0 : 1 ≤ f := pos_ten hm (by omega)
        obtain ⟨f', rfl⟩ : ∃ f', f = f' + 1 := ⟨f - 1, by omega⟩
        obtain ⟨n, hn⟩ : ∃ n : Nat, m / 10 = n := ⟨_, rfl⟩
        obtain ⟨r, hr⟩ : ∃ r : Nat, m % 10 = r := ⟨_, rfl⟩
        rw [hn, hr] at cO
        obtain ⟨x', ex⟩ : ∃ x' : Int, rh (n : Int) = x' := ⟨_, rfl⟩
        obtain ⟨y', ey⟩ : ∃ y' : Int, rl (n : Int) = y' := ⟨_, rfl⟩
        rw [ex, ey] at cO
        have hr10 : r < 10 := by omega
        have hn10 : n < 10 ^ f' := by
          rw [← hn]
          rw [Nat.pow_succ] at hm
          exact Nat.div_lt_of_lt_mul (by omega)
        have hnN : n ≤ N := by omega
        have hdn : ((dig m).toNat : Int) = 48 + (r : Int) := by rw [dig_nat, hr]; omega
        have hpr := HP.out
        rw [pre_step hgo, hn, List.append_assoc, List.singleton_append] at hpr
        have HPR := hideIt hpr
        have HD := hideIt hdn
        have HX := hideIt ex
        have HY := hideIt ey
        have HN10 := hideIt hn10
        have HNN := hideIt hnN
        clear hn hr hdn hgo hmN hm ex ey hpr hn10 hnN
        obtain ⟨q0, q1, q2⟩ := Z0.num
        have q3 := Z0.free 0
        have q4 := Z0.free 1
        have ef : (((f' + 1 : Nat) : Int) - 1) = (f' : Int) := by omega
        have y1 : IntKind.u8.wrap (r : Int) = (r : Int) := by rw [IntKind.wrap_u8]; omega
        have y2 : IntKind.u8.wrap (48 + (r : Int)) = 48 + (r : Int) := by rw [IntKind.wrap_u8]; omega
        have i0 : (0 : Int) ≤ (f' : Int) := by omega
        have i1 : (f' : Int) < 39 := by omega
        go_upto_region 7 with (first
          | (go_at_call 75; refine (cO _).mono ?_; rintro e w2 ⟨rfl, h2⟩
             have Y0 := Z0.call h2
             have Y1 := Z1.call h2
             have Y2 := chain Z2 h2
             obtain ⟨r0, r1, r2⟩ := Y0.num
             have r3 := Y0.free 0
             have r4 := Y0.free 1))
        obtain ⟨u, hu⟩ : ∃ u, (places k tl)[f']? = some u := ⟨_, Array.getElem?_eq_getElem (by rw [places_size HT.out (by omega)]; omega)⟩
        have d0 : w2.cell? ⟨w.heap.size + 1, f', none⟩ = some u := by rw [Y1.read, hu]
        have d1 := Y1.free f'
        clear hu
        go_wp2
        go_roundg f'
        case measure => have := HG.out; omega
        case rel =>
          have hput := places_put (k := k) (tl := tl) (by omega) (dig m)
          rw [show 39 - (k + 1) = f' by omega, HD.out] at hput
          refine ⟨f', k + 1, n, x', y', dig m :: tl, by omega, rfl, rfl, by rw [List.length_cons, HT.out], HPR.out, HN10.out, HNN.out, HX.out, HY.out, ?_, ?_, ?_⟩
          · exact ((Y0.wrote 0 _).wrote 1 _).apart (by simp) _
          · rw [← hput]
            exact ((Y1.apart (by simp) _).apart (by simp) _).wrote f' _
          · repeat (first | exact Y2 | refine Below.setCell ?_ (by simp) _)
      · rw [decide_eq_false hgo]
        have hk0 : 0 < k := by omega
        have hm0 : m = 0 := by omega
        subst hm0
        have hpr := HP.out
        rw [pre_end hk0, List.nil_append] at hpr
        have HPR := hideIt hpr
        clear hpr cO
        have i0 : (0 : Int) ≤ (f : Int) := by omega
        have i1 : (f : Int) ≤ 39 := by omega
        go_wp2
        have e39 : 39 - f = k := by omega
        have el : tl.length = 39 - f := by rw [HT.out, e39]
        rw [← el]
        have hz := places_lies Z1 HT.out
        rw [show 39 - k = f by omega] at hz
        go_ret
        rw [HPR.out]
        exact ⟨w.heap.size + 1, f, rfl, by omega, Z1.inside, hz, Z2⟩
end Go.Proofs.YtfnbehijnmbhjaaDoor
