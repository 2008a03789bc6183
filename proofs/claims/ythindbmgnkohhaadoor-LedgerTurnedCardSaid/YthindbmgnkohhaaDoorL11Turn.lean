/-
  NOT FINISHED (round 11: NOTES.md says where it stands; the last 'done' is open).
  The law LedgerTurned: the same lines in another order come to the same rows, or to an error, too; remarks and empty lines between change nothing but line numbers. Conditions: none.
-/
import Derived.Test.YthindbmgnkohhaaDoorU11Awake
import Derived.Test.YthindbmgnkohhaaDoorU11Imp
import Derived.Test.YthindbmgnkohhaaDoorM9Lin
import Derived.Test.YthindbmgnkohhaaDoorD11Laws
import Derived.Test.YthindbmgnkohhaaDoorD11Turn
import Derived.Test.YthindbmgnkohhaaDoorW9Str
import Derived.Test.YthindbmgnkohhaaDoorR10Sort
import Derived.Test.YthindbmgnkohhaaDoorW0Off
import Derived.Maps.AppendAt
import Derived.Test.YthindbmgnkohhaaDoorW10Laid
import Derived.Laws.Concat
import Derived.ChangeMaps
namespace Go.Proofs.YthindbmgnkohhaaDoor
set_option linter.unusedVariables false
set_option linter.unusedSimpArgs false
set_option maxRecDepth 10000
open Go.ChangeShapes Go.WideShapes Go.ChangeAt Go.RowKit Go.Sort

set_option maxRecDepth 100000 in
set_option maxHeartbeats 2000000 in
theorem lturn_out (A : Option Addr) (c : Nat) (ss : List ByteArray) (h a b : Int) (hl : ss.length = 0 ∨ 60 < ss.length) (w : World) (hT : TabU w) :
    Calls Tryd.prog 4 #[.slice A ss.length c, .int .i64 h, .int .i64 a, .int .i64 b] w (Tells (.bool true) w.heap.size w) := by
  have cA := fun u hu => awake11_any u hu
  obtain ⟨n, hn⟩ : ∃ n, ss.length = n := ⟨_, rfl⟩
  rw [hn] at hl ⊢
  clear hn
  rcases hl with rfl | hl
  · go_enter Tryd.func4, Tryd.ntmps4
    go_wp2_with (first
      | (go_at_call 11; refine (cA _ hT).mono ?_; rintro e w1 ⟨rfl, j1⟩)
      | fail)
    go_ret
    exact ⟨rfl, j1⟩
  · have h1 : (60 : Int) < (n : Int) := by omega
    have h2 : ((n : Int) == 0) = false := beq_false_of_ne (by omega)
    have h3 : ¬ ((n : Int) = 0) := by omega
    go_enter Tryd.func4, Tryd.ntmps4
    go_wp2_with (first
      | (go_at_call 11; refine (cA _ hT).mono ?_; rintro e w1 ⟨rfl, j1⟩)
      | fail)
    go_ret
    exact ⟨rfl, j1⟩
/-- A block of texts, somehow filled. -/
def Turned (u : World) (B : Nat) (w : World) (g cap : Nat) : Prop := Below B w u ∧ ∃ cs, cs.size = cap ∧ Box u g 9 cs
theorem Turned.drew {u : World} {B : Nat} {w : World} {g cap : Nat} (h : Turned u B w g cap) : Turned u.drew B w g cap := by
  obtain ⟨h1, cs, h2, h3⟩ := h
  exact ⟨h1.drew, cs, h2, Box.draw h3⟩
theorem Turned.set {u : World} {B : Nat} {w : World} {g cap : Nat} (h : Turned u B w g cap) (hg : B ≤ g) (i : Nat) (v : Value) : Turned (u.setCell ⟨g, i, none⟩ v) B w g cap := by
  obtain ⟨h1, cs, h2, h3⟩ := h
  exact ⟨h1.setCell hg v, _, by rw [Array.size_setIfInBounds]; exact h2, Box.wrote h3 i v⟩
theorem turned_held {u : World} {B : Nat} {w : World} {g cap : Nat} {C : World → Prop} (fact : ∀ u, Turned u B w g cap → C u) (h : Turned u B w g cap) : Turned u B w g cap ∧ C u := ⟨h, fact u h⟩
/-- What lies at a place. -/
def atW (u : World) (p : Addr) : Value := (u.cell? p).getD (.bool false)
theorem Turned.at_ {u : World} {B : Nat} {w : World} {g cap : Nat} (h : Turned u B w g cap) {i : Nat} (hi : i < cap) : u.cell? ⟨g, i, none⟩ = some (atW u ⟨g, i, none⟩) := by
  obtain ⟨h1, cs, h2, h3⟩ := h
  have e := Box.read h3 i
  rw [Array.getElem?_eq_getElem (by omega)] at e
  unfold atW
  rw [e]
  rfl
section
variable {W U U' : World} {C : World → Prop}
theorem ht_low {D : Prop} (h : Below W.heap.size W U ∧ D) : Below W.heap.size W U := h.1
theorem ht_drew (fact : ∀ u, Below W.heap.size W u → C u) (h : Below W.heap.size W U ∧ C U) : Below W.heap.size W U.drew ∧ C U.drew := ⟨h.1.drew, fact _ h.1.drew⟩
theorem ht_past (fact : ∀ u, Below W.heap.size W u → C u) (h : Below W.heap.size W U ∧ C U) (o : Obj) : Below W.heap.size W (U.alloc o) ∧ C (U.alloc o) := ⟨chainA h.1 o, fact _ (chainA h.1 o)⟩
theorem ht_grown (fact : ∀ u, Below W.heap.size W u → C u) (h : Below W.heap.size W U ∧ C U) {row : Option Nat} (hg : U.grownBy U' row) (hr : ∀ j, row = some j → W.heap.size ≤ j) : Below W.heap.size W U' ∧ C U' :=
  ⟨h.1.grown hg h.1.size hr, fact _ (h.1.grown hg h.1.size hr)⟩
theorem ht_swap (fact : ∀ u, Below W.heap.size W u → C u) {o : Obj} (h : Below W.heap.size W (U.alloc o) ∧ C (U.alloc o)) (o' : Obj) (hs : W.heap.size ≤ U.heap.size) : Below W.heap.size W (U.alloc o') ∧ C (U.alloc o') := by
  have hb : Below W.heap.size W U := ⟨h.1.os, h.1.tape, h.1.output, hs, fun k hk => (Below.heap_alloc U o k (by omega)).symm.trans (h.1.block k hk)⟩
  exact ⟨chainA hb o', fact _ (chainA hb o')⟩
end
/-- append of three texts to a row of the call's own. -/
theorem app_three (w : World) (base : Nat) (v : Value) (n : Nat) (ss : List ByteArray) (hown : w.ownsRow base 9 1 v n (ss.map Value.string)) (g : Nat) (x y z : ByteArray) (hB : Box w g 9 #[.string x, .string y, .string z]) (hm : n ≤ 100000) (hb : base ≤ w.heap.size) :
    ∃ v' w', (∀ ty, (Builtin.append_ #[31, 31] ty #[v, .slice (some ⟨g, 0, none⟩) 3 3]).run Tryd.prog w = .ok v' w') ∧ w'.ownsRow base 9 1 v' (n + 3) ((ss ++ [x, y, z]).map Value.string) ∧ w.grownBy w' v.ownBlock := by
  obtain ⟨i0, hi, hz0, hz1, hz2⟩ := info_parts info_str
  obtain ⟨v', w', hrn, h2, h3, -, -⟩ := run_append_own_at (P := Tryd.prog) w base 31 0 9 i0 _ 1 16 Tryd.underlying31 hi hz0 hz1 hz2 rfl (by decide) v n (ss.map Value.string) hown ⟨g, 0, none⟩ 3 3 [.string x, .string y, .string z] rfl
    (fun j u hu => by
      have e1 : (⟨g, 0, none⟩ : Addr).add j = ⟨g, j, none⟩ := by simp [Addr.add]; exact fun hj => hj.symm
      rw [e1, hB.read]
      have : j < 3 := (List.getElem?_eq_some_iff.1 hu).1
      rcases j with _ | _ | _ | j
      · exact hu
      · exact hu
      · exact hu
      · omega) (by simp [Value.oneCell']) (by unfold maxLen; omega) (by omega) hb
  exact ⟨v', w', fun ty => (run_append_ty w 31 ty 0 v _).trans hrn, by rw [List.map_append]; exact h2, h3⟩
theorem step_three {ops : Array Oper} {o : Oper} {a : Act} {w : World} {K : Act → World → Prop} {Q : Exit → Act → World → Prop} {E : Prop} (base : Nat) (hgd : o.guard = none) (s x : Operand)
    (ho : o.op = .call { callee := .builtin .append, args := #[s, x], argTypes := #[31, 31] })
    (v : Value) (n : Nat) (ss : List ByteArray) (hs : a.eval s = v) (g : Nat) (p q r : ByteArray) (hx : a.eval x = .slice (some ⟨g, 0, none⟩) 3 3) (hm : n ≤ 100000)
    (hown : w.ownsRow base 9 1 v n (ss.map Value.string)) (hB : Box w g 9 #[.string p, .string q, .string r]) (hb : base ≤ w.heap.size)
    (hK : ∀ v' w', w'.ownsRow base 9 1 v' (n + 3) ((ss ++ [p, q, r]).map Value.string) → w.grownBy w' v.ownBlock → K (a.put o.dst v') w') : if Region.wanted o (yielded ops a.tmps) = true then Oper.wp Tryd.prog o a w K Q else E := by
  obtain ⟨v', w', hrn, h2, h3⟩ := app_three w base v n ss hown g p q r hB hm hb
  exact step_run hgd s x _ ho v _ hs hx v' w' hrn (hK v' w' h2 h3)
theorem rest_nat (a : Int) (n : Nat) (h1 : 1 ≤ n) (h2 : n ≤ 60) : ∃ i : Nat, wrap64 ((IntKind.u64.wrap a).tmod (n : Int)) = (i : Int) ∧ i < n := by
  have e0 : 0 ≤ IntKind.u64.wrap a := by rw [IntKind.wrap_u64]; omega
  have e1 : (IntKind.u64.wrap a).tmod (n : Int) = (IntKind.u64.wrap a) % (n : Int) := Int.tmod_eq_emod_of_nonneg e0
  have e2 := Int.emod_nonneg (IntKind.u64.wrap a) (show (n : Int) ≠ 0 by omega)
  have e3 := Int.emod_lt_of_pos (IntKind.u64.wrap a) (show (0 : Int) < n by omega)
  refine ⟨((IntKind.u64.wrap a) % (n : Int)).toNat, ?_, by omega⟩
  rw [e1, IntWalk.wrap64_in _ (by omega)]
  omega
/-- What Import tells of a text. -/
def IsImp (T : ByteArray) (h : Int) (zs : List Rw) (x p : Int) : Prop := ∀ u, TabU u → Calls Tryd.prog 8 #[.string T, .int .i64 h] u fun e w' => ∃ A, e = .returned (.tuple #[.slice A zs.length zs.length, .int .i64 x, .int .i64 p]) ∧ RwRow w' w'.heap.size A zs ∧ Below u.heap.size u w'
theorem isImp_height (T : ByteArray) (h : Int) (hh : ¬ (0 ≤ h ∧ h ≤ 10)) : IsImp T h [] 0 120 := fun u _ => (import_height T h hh u).mono fun e w' k => ⟨none, k.1, RwRow.nil _ _ _, k.2⟩
theorem isImp_of (T : ByteArray) (h : Nat) (hh : h ≤ 10) (hz : T.size ≤ 65536) {R zs : List Rw} {x p : Nat} (hI : impF (2 ^ h) [] 0 (splitL T.data.toList) = (R, x, p)) (h0 : p = 0 → Sd R zs) (h1 : p ≠ 0 → zs = []) : IsImp T h zs x p := fun u hu => by
  refine (import_any T hz h hh u hu).mono fun e w' q => ?_
  obtain ⟨v, q1, q2, q3⟩ := q
  rw [hI] at q1 q3
  rcases q3 with ⟨q3, ys, q4⟩ | ⟨q3, rfl⟩
  · obtain rfl := q4.1.same (h0 q3)
    obtain ⟨A, rfl, q5⟩ := q4.row
    exact ⟨A, q1, q5, q2⟩
  · rw [h1 q3]
    exact ⟨none, q1, RwRow.nil _ _ _, q2⟩
theorem split_bA (X : List ByteArray) (h0 : X ≠ []) (h : any10 X = false) : splitL (bA (joinB X)).data.toList = X.map fun s => s.data.toList := by
  have e : (bA (joinB X)).data.toList = joinB X := by simp [bA]
  rw [e]
  exact split_joined _ (by simpa using h0) (any10_no X h)
theorem join_small (X : List ByteArray) (hX : X.length ≤ 180) (hs : ∀ s ∈ X, s.size ≤ 202) : (joinB X).length ≤ 65536 := by
  have h := joinL_most (X.map fun s => s.data.toList) 202 (fun x hx => by
    obtain ⟨s, h1, rfl⟩ := List.mem_map.1 hx
    have := hs s h1
    rw [ba_size]
    exact this)
  rw [List.length_map] at h
  unfold joinB
  have : X.length * (202 + 1) ≤ 180 * 203 := Nat.mul_le_mul hX (by omega)
  omega
/-- What the four texts come to. -/
theorem four_imps (ss X Y Z : List ByteArray) (r : ByteArray) (h : Int) (h0 : ss ≠ []) (ha : any10 ss = false) (hn : ss.length ≤ 60) (hs : ∀ s ∈ ss, s.size ≤ 200)
    (hX : (ss.map fun s => s.data.toList).Perm (X.map fun s => s.data.toList)) (hY : (ss.map fun s => s.data.toList).Perm (Y.map fun s => s.data.toList))
    (hXs : ∀ s ∈ X, s.size ≤ 200) (hYs : ∀ s ∈ Y, s.size ≤ 200) (hZ : Z = spreadS r ss) (hZa : any10 Z = false) (hr : tell r.data.toList = (Rw.zero, false, wrongL r.data.toList)) (hrs : r.size ≤ 202) :
    ∃ (zs : List Rw) (x x2 x3 p q o : Int), ((p = 0 ∧ q = 0 ∧ o = 0) ∨ (p ≠ 0 ∧ q ≠ 0 ∧ o ≠ 0)) ∧ zs.length ≤ 1024 ∧ 0 ≤ x ∧ x ≤ 60 ∧ IsImp (bA (joinB ss)) h zs x p ∧ IsImp (bA (joinB X)) h zs x2 q ∧ IsImp (bA (joinB Y)) h zs x3 o ∧
      (wrongL r.data.toList = 0 → IsImp (bA (joinB Z)) h zs (3 * x) p) ∧ (wrongL r.data.toList ≠ 0 → ∃ y m, m ≠ 0 ∧ IsImp (bA (joinB Z)) h [] y m) := by
  by_cases hh : 0 ≤ h ∧ h ≤ 10
  · obtain ⟨k, rfl⟩ : ∃ k : Nat, h = (k : Int) := ⟨h.toNat, by omega⟩
    have hk : k ≤ 10 := by omega
    have lX : X.length = ss.length := by have := hX.length_eq; simpa using this.symm
    have lY : Y.length = ss.length := by have := hY.length_eq; simpa using this.symm
    have hl0 : 0 < ss.length := List.length_pos_iff.2 h0
    have nX : X ≠ [] := List.length_pos_iff.1 (by omega)
    have nY : Y ≠ [] := List.length_pos_iff.1 (by omega)
    have nZ : Z ≠ [] := List.length_pos_iff.1 (by rw [hZ, spread_len]; omega)
    have aX : any10 X = false := by rw [any10_L, ← any_perm hX, ← any10_L]; exact ha
    have aY : any10 Y = false := by rw [any10_L, ← any_perm hY, ← any10_L]; exact ha
    have zz : ∀ (V : List ByteArray), V.length ≤ 180 → (∀ s ∈ V, s.size ≤ 202) → (bA (joinB V)).size ≤ 65536 := fun V h1 h2 => by
      have := join_small V h1 h2
      simpa [bA, ByteArray.size] using this
    have z0 := zz ss (by omega) (fun s k => by have := hs s k; omega)
    have z1 := zz X (by omega) (fun s k => by have := hXs s k; omega)
    have z2 := zz Y (by omega) (fun s k => by have := hYs s k; omega)
    have z3 := zz Z (by rw [hZ, spread_len]; omega) (fun s k => by
      rw [hZ] at k
      obtain ⟨y, hy, k⟩ := List.mem_flatMap.1 k
      have := hs y hy
      rcases List.mem_cons.1 k with rfl | k
      · exact Nat.zero_le _
      · rcases List.mem_cons.1 k with rfl | k
        · exact hrs
        · rw [List.mem_singleton.1 k]; omega)
    have s0 := split_bA ss h0 ha
    have s1 := split_bA X nX aX
    have s2 := split_bA Y nY aY
    have s3 := split_bA Z nZ hZa
    rw [hZ, spread_map] at s3
    rw [← hZ] at s3
    obtain ⟨L, hL⟩ : ∃ L, (ss.map fun s => s.data.toList) = L := ⟨_, rfl⟩
    rw [hL] at s0 s3 hX hY
    have bad : ∀ wr : wrongL r.data.toList ≠ 0, ∃ y m : Int, m ≠ 0 ∧ IsImp (bA (joinB Z)) (k : Int) [] y m := fun wr => by
      obtain ⟨y, t, rfl⟩ : ∃ y t, L = y :: t := by
        cases L with
        | nil => simp at hL; exact absurd hL h0
        | cons y t => exact ⟨y, t, rfl⟩
      have e := impF_spread_bad (2 ^ k) r.data.toList (by rw [hr]; exact wr) (by rw [hr]) y t [] 0
      rw [← s3, hr] at e
      exact ⟨_, _, by simpa using wr, isImp_of _ k hk z3 e (fun c => absurd c wr) (fun _ => rfl)⟩
    have good : ∀ (wr : wrongL r.data.toList = 0) {R zs : List Rw} {x p : Nat}, impF (2 ^ k) [] 0 L = (R, x, p) → (p = 0 → Sd R zs) → (p ≠ 0 → zs = []) → IsImp (bA (joinB Z)) (k : Int) zs (3 * (x : Int)) p := fun wr {R zs x p} e c0 c1 => by
      have e2 := impF_spread (2 ^ k) r.data.toList (by rw [hr]; exact wr) (by rw [hr]) L [] 0
      rw [Nat.mul_zero, ← s3, e] at e2
      have := isImp_of _ k hk z3 e2 c0 c1
      simpa using this
    have hLl : L.length ≤ 60 := by rw [← hL, List.length_map]; exact hn
    rcases impF_perm (2 ^ k) hX with ⟨a1, a2, a3, a4⟩ | ⟨K, E, J, F, a1, a2, a3, a4⟩
    · rcases impF_perm (2 ^ k) hY with ⟨b1, b2, b3, b4⟩ | ⟨K, E, J, F, b1, -, b3, -⟩
      · obtain ⟨zs, hz⟩ := sd_exists (rowsL L)
        have nd := a3.2.1
        refine ⟨zs, 0, 0, 0, 0, 0, 0, .inl ⟨rfl, rfl, rfl⟩, ?_, by omega, by omega, ?_, ?_, ?_, ?_, bad⟩
        · rw [← hz.perm.length_eq]
          have a := a3.1
          have b : 2 ^ k ≤ 2 ^ 10 := Nat.pow_le_pow_right (by omega) hk
          omega
        · exact isImp_of _ k hk z0 (by rw [s0]; exact a1) (fun _ => hz) (fun c => absurd rfl c)
        · exact isImp_of _ k hk z1 (by rw [s1]; exact a2) (fun _ => Sd.turned (((a4.map keyR).nodup_iff).1 nd) a4.symm hz) (fun c => absurd rfl c)
        · exact isImp_of _ k hk z2 (by rw [s2]; exact b2) (fun _ => Sd.turned (((b4.map keyR).nodup_iff).1 nd) b4.symm hz) (fun c => absurd rfl c)
        · exact fun wr => good wr a1 (fun _ => hz) (fun c => absurd rfl c)
      · rw [a1] at b1
        injection b1 with _ b1
        injection b1 with _ b1
        exact absurd b1.symm b3
    · rcases impF_perm (2 ^ k) hY with ⟨b1, -, -, -⟩ | ⟨K2, E2, J2, F2, b1, b2, b3, b4⟩
      · rw [a1] at b1
        injection b1 with _ b1
        injection b1 with _ b1
        exact absurd b1 a3
      · have hKl : K ≤ 60 := by
          rcases impF_spec (2 ^ k) L [] 0 (good_nil _) (fun x hx => by cases hx) with ⟨c1, -, -⟩ | ⟨j, G, c1, -, -, c4, -⟩
          · rw [a1] at c1
            injection c1 with _ c1
            injection c1 with _ c1
            exact absurd c1 a3
          · rw [a1] at c1
            injection c1 with _ c1
            injection c1 with c1 _
            omega
        refine ⟨[], K, J, J2, E, F, F2, .inr ⟨by omega, by omega, by omega⟩, by simp, by omega, by omega, ?_, ?_, ?_, ?_, bad⟩
        · exact isImp_of _ k hk z0 (by rw [s0]; exact a1) (fun c => absurd c a3) (fun _ => rfl)
        · exact isImp_of _ k hk z1 (by rw [s1]; exact a2) (fun c => absurd c a4) (fun _ => rfl)
        · exact isImp_of _ k hk z2 (by rw [s2]; exact b2) (fun c => absurd c b4) (fun _ => rfl)
        · exact fun wr => good wr a1 (fun c => absurd c a3) (fun _ => rfl)
  · exact ⟨[], 0, 0, 0, 120, 120, 120, .inr ⟨by decide, by decide, by decide⟩, by simp, by omega, by omega, isImp_height _ h hh, isImp_height _ h hh, isImp_height _ h hh, fun _ => by simpa using isImp_height _ h hh, fun _ => ⟨0, 120, by decide, isImp_height _ h hh⟩⟩
set_option maxRecDepth 100000 in
set_option maxHeartbeats 4000000 in
theorem lturn_any (A : Option Addr) (c : Nat) (ss : List ByteArray) (h a b : Int) (hl : 1 ≤ ss.length) (hm : ss.length ≤ 60) (w : World) (hr : StrRow w w.heap.size A ss) (hT : TabU w) :
    Calls Tryd.prog 4 #[.slice A ss.length c, .int .i64 h, .int .i64 a, .int .i64 b] w (Tells (.bool true) w.heap.size w) := by
  have cA := fun u hu => awake11_any u hu
  obtain ⟨i0, hi, hz0, hz1, hz2'⟩ := info_parts info_str
  obtain ⟨n, hn⟩ : ∃ n, ss.length = n := ⟨_, rfl⟩
  rw [hn] at hl hm ⊢
  have g1 : ¬ ((60 : Int) < (n : Int)) := by omega
  have g2 : ((n : Int) == 0) = false := beq_false_of_ne (by omega)
  have g3 : ¬ ((n : Int) = 0) := by omega
  have g4 : IntKind.u64.wrap (n : Int) = (n : Int) := by rw [IntKind.wrap_u64]; omega
  go_enter Tryd.func4, Tryd.ntmps4
  go_upto_region 5 with (first
    | (go_at_call 11; refine (cA _ hT).mono ?_; rintro e w1 ⟨rfl, j1⟩)
    | fail)
  have hr1 := (hr.call j1).more j1.size
  go_upto_region 8 with fail
  go_loopg [10, 12] n (fun gk v i wr => ∃ (j : Nat) (t : Int), j ≤ n ∧ j ≤ gk ∧ i = .int .i64 t ∧ t = (j : Int) - 1 ∧ wr.ownsRow w1.heap.size 9 1 v (n - j) ((ss.drop j).reverse.map Value.string) ∧ Below w1.heap.size w1 wr ∧ Hid (∀ s ∈ ss.drop j, s.size ≤ 200))
  case atStart => exact ⟨n, _, Nat.le_refl _, Nat.le_refl _, rfl, rfl, by rw [← hn, List.drop_length, Nat.sub_self]; exact World.ownsRow_nil _ _ _ _, Below.refl _ _, by rw [← hn, List.drop_length]; exact fun s hs => by cases hs⟩
  case round =>
    obtain ⟨j, t, hj, hgk, rfl, ht, hown, hb, hsz⟩ := hrel
    have HG := hideIt hgk
    clear hgk
    cases j with
    | succ m =>
      obtain rfl : t = (m : Int) := by omega
      clear ht
      obtain ⟨s, hs⟩ : ∃ s, ss[m]? = some s := ⟨_, List.getElem?_eq_getElem (by omega)⟩
      obtain ⟨ad, rfl, hadl, hac⟩ := (hr1.call hb) m s hs
      have hmn : (m : Int) < (n : Int) := by omega
      have hm0 : (0 : Int) ≤ (m : Int) := by omega
      have hadw : (ad.add m).block < wr.heap.size := by rw [addr_block]; exact Nat.lt_of_lt_of_le hadl hb.size
      by_cases h200 : 200 < s.size
      · have h200i : (200 : Int) < (s.size : Int) := by omega
        clear hs
        go_wp2
        go_ret
        exact ⟨rfl, chain j1 hb⟩
      · have h200i : ¬ ((200 : Int) < (s.size : Int)) := by omega
        obtain ⟨m1, m2⟩ := List.getElem?_eq_some_iff.1 hs
        have hdr : ss.drop m = s :: ss.drop (m + 1) := by rw [List.drop_eq_getElem_cons m1, m2]
        have hn2 : ∀ x ∈ ss.drop m, x.size ≤ 200 := fun x hx => by
          rw [hdr] at hx
          rcases List.mem_cons.1 hx with rfl | hx
          · omega
          · exact hsz.out x hx
        have hrv : (ss.drop m).reverse.map Value.string = (ss.drop (m + 1)).reverse.map Value.string ++ [.string s] := by rw [hdr]; simp
        have HN := hideIt hn2
        have HRV := hideIt hrv
        have hnm : n - (m + 1) + 1 = n - m := by omega
        have hml : n - (m + 1) + 1 ≤ maxLen := by unfold maxLen; omega
        have hpl : (n - (m + 1) + 1) * 16 ≤ 140737488355328 := by omega
        have hw : IntKind.i64.wrap ((m : Int) - 1) = (m : Int) - 1 := by rw [IntKind.wrap_i64]; omega
        have HJ := hideIt hj
        clear hs m2 hdr hn2 hrv hsz hj
        go_wp2_with (first
          | (at_builtin; refine wpList_append_own (w := wr.alloc (.cells #[.string s] 9)) rfl _ _ 31 rfl w1.heap.size 9 i0 (.string ⟨#[]⟩) 1 16 Tryd.underlying31 hi hz0 hz1 hz2' rfl (by decide) _ _ _ rfl (hown.alloc _) ⟨wr.heap.size, 0, none⟩ 1 1 [.string s] rfl rfl (one_new _ _ _) (by simp [Value.oneCell']) hml hpl (by have := hb.size; simp; omega) ?_; intro v' w2 hown' hgrow _)
          | fail)
        have q3 : Below w1.heap.size w1 w2 := (chainA hb _).grown hgrow (by have := hb.size; simp; omega) (fun k hk => (hown.lt k hk).1)
        have q2 : w2.ownsRow w1.heap.size 9 1 v' (n - m) ((ss.drop m).reverse.map Value.string) := by
          rw [HRV.out, ← hnm]
          exact hown'
        go_roundg m
        case measure => have := HG.out; omega
        case rel => exact ⟨m, _, by have := HJ.out; omega, Nat.le_refl _, by first | rfl | go_num, rfl, q2, q3, HN⟩
    | zero =>
      obtain rfl : t = -1 := by omega
      clear ht
      rw [List.drop_zero] at hown hsz
      rw [Nat.sub_zero] at hown
      have hsz2 := hsz.out
      have hbl : ss.reverse.length = n := by simp [hn]
      rw [← hbl] at hown
      obtain ⟨A1, c1, rfl, hrB⟩ := own_texts hown
      rw [hbl]
      obtain ⟨s0, hs0⟩ : ∃ s, ss[0]? = some s := ⟨_, List.getElem?_eq_getElem (by omega)⟩
      obtain ⟨ad, rfl, -, -⟩ := hr1 0 s0 hs0
      have hrA := (hr1.call hb).more hb.size
      have J1 := chain j1 hb
      clear hown hsz HG hr1 hr cA hs0 hb hj
      have own0 : (wr.alloc (.cells #[] 9)).ownsRow wr.heap.size 9 1 (.slice (some ⟨wr.heap.size, 0, none⟩) 0 0) 0 [] :=
        ⟨rfl, .inr ⟨wr.heap.size, 0, #[], rfl, Nat.le_refl _, Box.made wr _ _, Nat.le_refl _, by unfold maxLen; omega, rfl, rfl⟩⟩
      have hnews : ∀ j u, (ss.map Value.string)[j]? = some u → (wr.alloc (.cells #[] 9)).cell? (ad.add j) = some u := fun j u hu => by
        rw [List.getElem?_map] at hu
        obtain ⟨x, hx, rfl⟩ := Option.map_eq_some_iff.1 hu
        obtain ⟨ad', e, h1, h2⟩ := hrA.call (chainA (Below.refl _ _) (.cells #[] 9)) j x hx
        injection e with e
        subst e
        exact h2
      have h1s : ∀ u ∈ ss.map Value.string, u.oneCell' = true := fun u hu => by
        obtain ⟨x, -, rfl⟩ := List.mem_map.1 hu
        rfl
      go_upto_region 14 with (first
        | (at_builtin; refine wpList_append_own (w := wr.alloc (.cells #[] 9)) rfl _ _ 31 rfl wr.heap.size 9 i0 (.string ⟨#[]⟩) 1 16 Tryd.underlying31 hi hz0 hz1 hz2' rfl (by decide) _ 0 [] rfl own0 ad n c (ss.map Value.string) rfl (by simp [hn]) hnews h1s (by unfold maxLen; omega) (by omega) (by simp) ?_; intro v' W1 hown' hg _)
        | fail)
      have L1 : Below wr.heap.size wr W1 := ((Below.refl _ wr).alloc (Nat.le_refl _) _).grown hg (by simp) (fun k hk => (own0.lt k hk).1)
      have hown2 : W1.ownsRow wr.heap.size 9 1 v' n (ss.map Value.string) := by simpa using hown'
      obtain ⟨g, cap, cur, rfl, hg1, hgB, hcap, -, hcz, hcur⟩ : ∃ g cap cur, v' = .slice (some ⟨g, 0, none⟩) n cap ∧ wr.heap.size ≤ g ∧ W1.heap[g]? = some (.cells cur 9 (0, 0)) ∧ n ≤ cap ∧ cap ≤ maxLen ∧ cur.size = cap * 1 ∧ cur.toList.take (n * 1) = ss.map Value.string := by
        rcases hown2.2 with ⟨-, e⟩ | ⟨g, cap, cur, h⟩
        · omega
        · exact ⟨g, cap, cur, h⟩
      have hcr : ∀ j s, ss[j]? = some s → cur[j]? = some (Value.string s) := fun j s hs => by
        have hj := (List.getElem?_eq_some_iff.1 hs).1
        have e : (cur.toList.take (n * 1))[j]? = some (.string s) := by rw [hcur, List.getElem?_map, hs]; rfl
        rw [List.getElem?_take_of_lt (by omega)] at e
        simpa using e
      have H : Has wr [(g, 9, cur)] W1 := (Has.start wr).call L1 |>.with hgB
      clear hown' hown2 hg hnews h1s own0 L1 hgB hcur hi hz0 hz1 hz2'
      have hnz : ¬ ((n : Int) = 0) := g3
      obtain ⟨i, hI, hin⟩ := rest_nat a n (by omega) (by omega)
      obtain ⟨k, hK, hkn⟩ := rest_nat b n (by omega) (by omega)
      go_quiet (fail)
      rw [hI, hK]
      have H := H.drewN nq
      generalize W1.drewN nq = W2 at *
      obtain ⟨si, hsi⟩ : ∃ s, ss[i]? = some s := ⟨_, List.getElem?_eq_getElem (by omega)⟩
      obtain ⟨sk, hsk⟩ : ∃ s, ss[k]? = some s := ⟨_, List.getElem?_eq_getElem (by omega)⟩
      have cellL : ∀ u, Below wr.heap.size wr u → ∀ j s, ss[j]? = some s → u.cell? (ad.add j) = some (.string s) := fun u hu j s hs => by
        obtain ⟨_, e, _, q⟩ := hrA.call hu j s hs
        cases e
        exact q
      have hik : (i : Int) < (n : Int) ∧ (k : Int) < (n : Int) ∧ (i : Int) < (cap : Int) ∧ (k : Int) < (cap : Int) := by omega
      obtain ⟨hi1, hk1, hi2, hk2⟩ := hik
      have bxf : ∀ u, Turned u wr.heap.size wr g cap → u.frozen? ⟨g, i, none⟩ = false ∧ u.frozen? ⟨g, k, none⟩ = false ∧ u.cell? ⟨g, i, none⟩ = some (atW u ⟨g, i, none⟩) ∧ u.cell? ⟨g, k, none⟩ = some (atW u ⟨g, k, none⟩) ∧ g < u.heap.size := fun u hu => by
        have a1 := hu.at_ (i := i) (by omega)
        have a2 := hu.at_ (i := k) (by omega)
        obtain ⟨-, cs, hcs, hB⟩ := hu
        exact ⟨Box.free hB i, Box.free hB k, a1, a2, Box.inside hB⟩
      have fact : ∀ u, Turned u wr.heap.size wr g cap → (u.cell? (ad.add i) = some (.string si) ∧ u.cell? (ad.add k) = some (.string sk) ∧ u.frozen? ⟨g, i, none⟩ = false ∧ u.frozen? ⟨g, k, none⟩ = false ∧ u.cell? ⟨g, i, none⟩ = some (atW u ⟨g, i, none⟩) ∧ u.cell? ⟨g, k, none⟩ = some (atW u ⟨g, k, none⟩) ∧ g < u.heap.size) := fun u hu =>
        ⟨cellL u hu.1 i si hsi, cellL u hu.1 k sk hsk, bxf u hu⟩
      have T2 : Turned W2 wr.heap.size wr g cap := ⟨H.below, cur, by omega, H.box 0⟩
      have F2 := fact W2 T2
      go_upto_region 15 with fail
      go_cut [16] (fun s16 wx => Turned wx wr.heap.size wr g cap ∧ Box wx g 9 ((cur.setIfInBounds i (.string sk)).setIfInBounds k (.string si)))
      case first =>
        go_region_held3 (fun u => Turned u wr.heap.size wr g cap ∧ (u.cell? (ad.add i) = some (.string si) ∧ u.cell? (ad.add k) = some (.string sk) ∧ u.frozen? ⟨g, i, none⟩ = false ∧ u.frozen? ⟨g, k, none⟩ = false ∧ u.cell? ⟨g, i, none⟩ = some (atW u ⟨g, i, none⟩) ∧ u.cell? ⟨g, k, none⟩ = some (atW u ⟨g, k, none⟩) ∧ g < u.heap.size))
          (first
            | exact ⟨T2, F2⟩
            | ((with_reducible refine turned_held fact ?_); (repeat (first | exact T2 | ((with_reducible refine And.left (b := _) ?_); assumption) | (with_reducible refine Turned.drew ?_) | (with_reducible refine Turned.set ?_ hg1 _ _)))))
          (fail)
        all_goals go_wp2
        all_goals go_meet
        all_goals refine ⟨?_, ?_⟩
        all_goals (repeat (first | exact T2 | exact H.box 0 | (with_reducible refine Turned.drew ?_) | (with_reducible refine Turned.set ?_ hg1 _ _) | (with_reducible refine Box.draw ?_) | (with_reducible refine Box.wrote ?_ _ _)))
      case rest =>
        obtain ⟨TW, BW⟩ := hcut
        have hrC : StrRow wc wc.heap.size (some ⟨g, 0, none⟩) ((ss.set i sk).set k si) := fun j s hs => by
          refine ⟨_, rfl, BW.inside, ?_⟩
          have e1 : (⟨g, 0, none⟩ : Addr).add j = ⟨g, j, none⟩ := by simp [Addr.add]; exact fun hj => hj.symm
          rw [e1, BW.read]
          have hjn := (List.getElem?_eq_some_iff.1 hs).1
          rw [List.length_set, List.length_set] at hjn
          rw [List.getElem?_set, List.length_set] at hs
          rw [Array.getElem?_setIfInBounds, Array.size_setIfInBounds]
          by_cases hkj : k = j
          · rw [if_pos hkj, if_pos (by omega)] at hs
            rw [if_pos hkj, if_pos (by omega)]
            injection hs with hs
            rw [hs]
          · rw [if_neg hkj] at hs ⊢
            rw [List.getElem?_set] at hs
            rw [Array.getElem?_setIfInBounds]
            by_cases hij : i = j
            · rw [if_pos hij, if_pos (by omega)] at hs
              rw [if_pos hij, if_pos (by omega)]
              injection hs with hs
              rw [hs]
            · rw [if_neg hij] at hs ⊢
              exact hcr j s hs
        have hb := TW.1
        have hrA := (hrA.call hb).more hb.size
        have hrB := (hrB.call hb).more hb.size
        have J1 := chain J1 hb
        clear TW BW fact bxf T2 F2 cellL H hcr hcz hcap hnz hI hK hb hi2 hk2 hk1
        go_upto_region 17 with fail
        have hss := hsz2 si (List.mem_of_getElem? hsi)
        have hcat : ¬ (9223372036854775807 < 2 + si.size) := by omega
        go_loopg [11, 16] n (fun gk v i wr => ∃ q : Nat, q ≤ n ∧ n - q ≤ gk ∧ i = .int .i64 q ∧ wr.ownsRow wc.heap.size 9 1 v (3 * q) ((spreadS (⟨#[35, 32]⟩ ++ si) (ss.take q)).map Value.string) ∧ Below wc.heap.size wc wr)
        case atStart => exact ⟨0, Nat.zero_le _, by omega, rfl, by exact World.ownsRow_nil _ _ _ _, Below.refl _ _⟩
        case round =>
          rename World => wq
          obtain ⟨q, hq, hgq, rfl, hown, hb⟩ := hrel
          have HG := hideIt hgq
          clear hgq
          by_cases hlt : q < n
          · obtain ⟨s, hs⟩ : ∃ s, ss[q]? = some s := ⟨_, List.getElem?_eq_getElem (by omega)⟩
            have hlti : (q : Int) < (n : Int) := by omega
            have fact : ∀ u, Below wc.heap.size wc u → (u.cell? (ad.add i) = some (.string si) ∧ u.cell? (ad.add q) = some (.string s)) := fun u hu => by
              obtain ⟨_, e1, _, a1⟩ := hrA.call hu i si hsi
              obtain ⟨_, e2, _, a2⟩ := hrA.call hu q s hs
              cases e1
              cases e2
              exact ⟨a1, a2⟩
            have F0 := fact wq hb
            have hwq := hb.size
            have HS := hideIt (spread_take (⟨#[35, 32]⟩ ++ si) hs)
            clear hs
            go_upto_region 19 with fail
            go_region_held3 (fun u => Below wc.heap.size wc u ∧ (u.cell? (ad.add i) = some (.string si) ∧ u.cell? (ad.add q) = some (.string s)))
              (first | exact ⟨hb, F0⟩ | exact ⟨hb.drew, fact _ hb.drew⟩ | exact ht_drew fact (by assumption) | exact ht_past fact (by assumption) _ | exact ht_swap fact (by assumption) _ (by omega) | exact ht_grown fact (by assumption) hg9 (fun j hj => (hown.lt j hj).1))
              (first
                | (refine step_three wc.heap.size (by rfl) _ _ (by rfl) u11 (3 * q) (spreadS (⟨#[35, 32]⟩ ++ si) (ss.take q)) (by rfl) _ ⟨#[]⟩ (⟨#[35, 32]⟩ ++ si) s (by rfl) (by omega) ?_ ?_ (ht_low (by assumption)).size ?_
                   (focus ((repeat (first | assumption | (with_reducible refine World.ownsRow.alloc ?_ _) | (with_reducible refine World.ownsRow.drew ?_) | fail)); done))
                   (focus ((repeat (first | assumption | ((with_reducible refine Box.madeAt ?_ _ _); (first | rfl | (focus (simp; done)) | fail)) | (with_reducible refine Box.past ?_ _) | (with_reducible refine Box.draw ?_) | fail)); done))
                   intro v9 u9 own9 hg9
                   skip)
                | fail)
            all_goals go_wp2
            all_goals (go_roundg (n - (q + 1)))
            all_goals first
              | (have := HG.out; omega)
              | exact ⟨q + 1, by omega, Nat.le_refl _, by go_num, by rw [HS.out, show 3 * (q + 1) = 3 * q + 3 by omega]; (repeat (first | exact own9 | (with_reducible refine World.ownsRow.alloc ?_ _) | (with_reducible refine World.ownsRow.drew ?_))), ht_low (by assumption)⟩
          · have e : q = n := by omega
            subst e
            rw [← hn, List.take_length] at hown
            have e4 := spread_len (⟨#[35, 32]⟩ ++ si) ss
            rw [← e4] at hown
            obtain ⟨A4, c4, rfl, hrD⟩ := own_texts hown
            obtain ⟨M, hM⟩ : ∃ M, 3 * q = M := ⟨_, rfl⟩
            rw [e4, hn, hM]
            have hrA := (hrA.call hb).more hb.size
            have hrB := (hrB.call hb).more hb.size
            have hrC := (hrC.call hb).more hb.size
            have J1 := chain J1 hb
            have mi : si ∈ ss := List.mem_of_getElem? hsi
            have mk : sk ∈ ss := List.mem_of_getElem? hsk
            have hrr : (⟨#[35, 32]⟩ ++ si : ByteArray).data.toList = 35 :: 32 :: si.data.toList := by simp
            have hns : ss ≠ [] := List.length_pos_iff.1 (by omega)
            have pX : (ss.map fun s => s.data.toList).Perm (ss.reverse.map fun s => s.data.toList) := (List.reverse_perm ss).symm.map _
            have pY : (ss.map fun s => s.data.toList).Perm (((ss.set i sk).set k si).map fun s => s.data.toList) := by
              rw [List.map_set, List.map_set]
              exact swap_perm _ (by rw [List.getElem?_map, hsi]; rfl) (by rw [List.getElem?_map, hsk]; rfl)
            have zX : ∀ s ∈ ss.reverse, s.size ≤ 200 := fun s hs => hsz2 s (by simpa using hs)
            have zY : ∀ s ∈ (ss.set i sk).set k si, s.size ≤ 200 := fun s hs => by
              rcases List.mem_or_eq_of_mem_set hs with hs | rfl
              · rcases List.mem_or_eq_of_mem_set hs with hs | rfl
                · exact hsz2 s hs
                · exact hsz2 s mk
              · exact hsz2 s mi
            have zR : (⟨#[35, 32]⟩ ++ si : ByteArray).size ≤ 202 := by
              have : (⟨#[35, 32]⟩ ++ si : ByteArray).size = 2 + si.size := by rw [ByteArray.size_append]; rfl
              omega
            have zZ : ∀ s ∈ spreadS (⟨#[35, 32]⟩ ++ si) ss, s.size ≤ 202 := fun s hs => by
              obtain ⟨y, hy, hs⟩ := List.mem_flatMap.1 hs
              have := hsz2 y hy
              rcases List.mem_cons.1 hs with rfl | hs
              · exact Nat.zero_le _
              · rcases List.mem_cons.1 hs with rfl | hs
                · exact zR
                · rw [List.mem_singleton.1 hs]; omega
            have aX : any10 ss.reverse = any10 ss := by rw [any10_L, any10_L]; exact (any_perm pX _).symm
            have aY : any10 ((ss.set i sk).set k si) = any10 ss := by rw [any10_L, any10_L]; exact (any_perm pY _).symm
            have aZ : any10 (spreadS (⟨#[35, 32]⟩ ++ si) ss) = any10 ss := by
              rw [any10_L, any10_L, spread_map, hrr]
              exact any_spread _ (List.mem_map_of_mem mi)
            have lY : ((ss.set i sk).set k si).length = q := by simp [hn]
            have cJ := fun (X : List ByteArray) (V : Option Addr) (d : Nat) (h1 : X.length ≤ 180) (h2 : ∀ s ∈ X, s.size ≤ 202) u hu => join_any V d X (by omega) (by have := join_small X h1 h2; omega) u hu
            have c1' := cJ ss (some ad) c (by omega) (fun s k => by have := hsz2 s k; omega)
            have c2' := cJ ss.reverse A1 c1 (by omega) (fun s k => by have := zX s k; omega)
            have c3' := cJ ((ss.set i sk).set k si) (some ⟨g, 0, none⟩) cap (by omega) (fun s k => by have := zY s k; omega)
            have c4' := cJ (spreadS (⟨#[35, 32]⟩ ++ si) ss) A4 c4 (by rw [e4]; omega) zZ
            rw [hn] at c1'
            rw [hbl, aX] at c2'
            rw [lY, aY] at c3'
            rw [e4, hn, hM, aZ] at c4'
            have hT1 := hT.call J1
            cases ha : any10 ss with
            | true =>
              rw [ha] at c1' c2' c3' c4'
              simp only [if_true] at c1' c2' c3' c4'
              clear cJ aX aY aZ zX zY zZ pX pY
              go_wp2_with (first
                | (go_at_call_of 12 (Value.slice (some ad) q c); refine (c1' _ hrA).mono ?_; rintro e v1 ⟨rfl, b1⟩; have hrB1 := (hrB.call b1).more b1.size; have hrC1 := (hrC.call b1).more b1.size; have hrD1 := (hrD.call b1).more b1.size)
                | (go_at_call_of 12 (Value.slice A1 q c1); refine (c2' _ hrB1).mono ?_; rintro e v2 ⟨rfl, b2⟩; have hrC2 := (hrC1.call b2).more b2.size; have hrD2 := (hrD1.call b2).more b2.size)
                | (go_at_call_of 12 (Value.slice (some ⟨g, 0, none⟩) q cap); refine (c3' _ hrC2).mono ?_; rintro e v3 ⟨rfl, b3⟩; have hrD3 := (hrD2.call b3).more b3.size)
                | (go_at_call_of 12 (Value.slice A4 M c4); refine (c4' _ hrD3).mono ?_; rintro e v4 ⟨rfl, b4⟩)
                | fail)
              go_ret
              exact ⟨rfl, chain J1 (chain b1 (chain b2 (chain b3 b4)))⟩
            | false =>
              rw [ha] at c1' c2' c3' c4' aZ
              simp only [Bool.false_eq_true, if_false] at c1' c2' c3' c4'
              obtain ⟨zs, x, x2, x3, p, r, o, hpqr, hzl, hx0, hx1, i1, i2, i3, i4, i5⟩ := four_imps ss ss.reverse ((ss.set i sk).set k si) (spreadS (⟨#[35, 32]⟩ ++ si) ss) (⟨#[35, 32]⟩ ++ si) h hns ha (by omega) hsz2 pX pY zX zY rfl aZ (by rw [hrr]; exact tell_rem _) zR
              have hno : splitL (⟨#[35, 32]⟩ ++ si : ByteArray).data.toList = [(⟨#[35, 32]⟩ ++ si : ByteArray).data.toList] := split_none (by
                rw [hrr]
                intro hm
                have h1 := (has10_iff _).2 hm
                rw [has10_rem] at h1
                have := List.any_eq_false.1 ha si mi
                exact this h1)
              have cK := fun u => check_any (⟨#[35, 32]⟩ ++ si) (by omega) u
              unfold linesL at cK
              rw [hno] at cK
              have cS := fun (X Y : Option Addr) u hu hv => rsame_any X Y zs.length zs.length zs (by omega) u hu hv
              unfold IsImp at i1 i2 i3 i4 i5
              obtain ⟨N, hN⟩ : ∃ N, zs.length = N := ⟨_, rfl⟩
              rw [hN] at i1 i2 i3 i4 cS
              obtain ⟨T1, hT1'⟩ : ∃ T, bA (joinB ss) = T := ⟨_, rfl⟩
              obtain ⟨T2, hT2'⟩ : ∃ T, bA (joinB ss.reverse) = T := ⟨_, rfl⟩
              obtain ⟨T3, hT3'⟩ : ∃ T, bA (joinB ((ss.set i sk).set k si)) = T := ⟨_, rfl⟩
              obtain ⟨T4, hT4'⟩ : ∃ T, bA (joinB (spreadS (⟨#[35, 32]⟩ ++ si) ss)) = T := ⟨_, rfl⟩
              rw [hT1'] at c1' i1
              rw [hT2'] at c2' i2
              rw [hT3'] at c3' i3
              rw [hT4'] at c4' i4 i5
              clear cJ aX aY aZ zX zY zZ pX pY hno hT1' hT2' hT3' hT4' hzl
              have hmul : IntKind.i64.wrap (3 * x) = 3 * x := by rw [IntKind.wrap_i64]; omega
              go_upto_region 24 with (first
                | (go_at_call_of 12 (Value.slice (some ad) q c); refine (c1' _ hrA).mono ?_; rintro e v1 ⟨rfl, b1⟩; have hrA1 := (hrA.call b1).more b1.size; have hrB1 := (hrB.call b1).more b1.size; have hrC1 := (hrC.call b1).more b1.size; have hrD1 := (hrD.call b1).more b1.size)
                | (go_at_call_of 12 (Value.slice A1 q c1); refine (c2' _ hrB1).mono ?_; rintro e v2 ⟨rfl, b2⟩; have hrA2 := (hrA1.call b2).more b2.size; have hrC2 := (hrC1.call b2).more b2.size; have hrD2 := (hrD1.call b2).more b2.size)
                | (go_at_call_of 12 (Value.slice (some ⟨g, 0, none⟩) q cap); refine (c3' _ hrC2).mono ?_; rintro e v3 ⟨rfl, b3⟩; have hrA3 := (hrA2.call b3).more b3.size; have hrD3 := (hrD2.call b3).more b3.size)
                | (go_at_call_of 12 (Value.slice A4 M c4); refine (c4' _ hrD3).mono ?_; rintro e v4 ⟨rfl, b4⟩; have hrA4 := (hrA3.call b4).more b4.size)
                | fail)
              have J4 := chain J1 (chain b1 (chain b2 (chain b3 b4)))
              have hT4 := hT.call J4
              clear hrA hrB hrC hrD hrA1 hrB1 hrC1 hrD1 hrA2 hrC2 hrD2 hrA3 hrD3 c1' c2' c3' c4' b1 b2 b3 b4 hT1 J1 hown
              obtain ⟨_, eA, _, qA⟩ := hrA4 i si hsi
              cases eA
              obtain ⟨_, eA, lA, -⟩ := hrA4 i si hsi
              cases eA
              have qB : (ad.add i).block < v4.heap.size := by rw [addr_block]; exact lA
              have hi1' : (i : Int) < (q : Int) := by omega
              have hcat : ¬ (9223372036854775807 < 2 + si.size) := by omega
              obtain ⟨W0, hW0⟩ : ∃ W0, wrongL (⟨#[35, 32]⟩ ++ si : ByteArray).data.toList = W0 := ⟨_, rfl⟩
              rw [hW0] at i4 i5
              have eK : (firstW (numb 1 [(⟨#[35, 32]⟩ ++ si : ByteArray).data.toList])) = if W0 = 0 then (0, 0) else (1, W0) := by
                show firstW [(1, (⟨#[35, 32]⟩ ++ si : ByteArray).data.toList)] = _
                unfold firstW
                rw [hW0]
                rfl
              rw [eK] at cK
              clear eK hW0
              have fA : ∀ u, Below v4.heap.size v4 u → u.cell? (ad.add i) = some (.string si) := fun u hu => by
                obtain ⟨_, e, _, z⟩ := hrA4.call hu i si hsi
                cases e
                exact z
              by_cases hW : W0 = 0
              · have cK0 : ∀ u, Calls Tryd.prog 13 #[.string (⟨#[35, 32]⟩ ++ si)] u (Tells (.tuple #[.int .i64 0, .int .i64 0]) u.heap.size u) := fun u => by
                  have e := cK u
                  rw [if_pos hW] at e
                  exact e
                have i6 := i4 hW
                clear i4 i5 cK hW
                rcases hpqr with ⟨rfl, rfl, rfl⟩ | ⟨n1, n2, n3⟩
                · skip
                  go_wp2_with (first
                    | (go_at_call_of 8 (Value.string T1); refine (i1 _ hT4).mono ?_; rintro e v5 ⟨B1, rfl, r1, b5⟩; have t5 := hT4.call b5)
                    | (go_at_call_of 8 (Value.string T2); refine (i2 _ t5).mono ?_; rintro e v6 ⟨B2, rfl, r2, b6⟩; have t6 := t5.call b6)
                    | (go_at_call_of 8 (Value.string T3); refine (i3 _ t6).mono ?_; rintro e v7 ⟨B3, rfl, r3, b7⟩; have t7 := t6.call b7)
                    | (go_at_call_of 8 (Value.string T4); refine (i6 _ t7).mono ?_; rintro e v8 ⟨B4, rfl, r4, b8⟩; have s1 := (r1.call (chain b6 (chain b7 b8))).more (chain b6 (chain b7 b8)).size; have s2 := (r2.call (chain b7 b8)).more (chain b7 b8).size; have s3 := (r3.call b8).more b8.size)
                    | (go_at_call 10; (with_reducible refine (cS B1 B2 _ s1 s2).mono ?_); rintro e v9 ⟨rfl, b9⟩; have x1 := (s1.call b9).more b9.size; have x3 := (s3.call b9).more b9.size; have x4 := (r4.call b9).more b9.size)
                    | (go_at_call 10; (with_reducible refine (cS B1 B3 _ x1 x3).mono ?_); rintro e v10 ⟨rfl, b10⟩; have z10 := fA _ (chain b5 (chain b6 (chain b7 (chain b8 (chain b9 b10))))); have q10 := Nat.lt_of_lt_of_le qB (chain b5 (chain b6 (chain b7 (chain b8 (chain b9 b10))))).size; have w1 := (x1.call b10).more b10.size; have w4 := (x4.call b10).more b10.size)
                    | (go_at_call 13; refine (cK0 _).mono ?_; rintro e v11 ⟨rfl, b11⟩; have y1 := (w1.call b11).more b11.size; have y4 := (w4.call b11).more b11.size)
                    | (go_at_call 10; (with_reducible refine (cS B1 B4 _ y1 y4).mono ?_); rintro e v12 ⟨rfl, b12⟩)
                    | fail)
                  go_ret
                  exact ⟨rfl, chain J4 (chain b5 (chain b6 (chain b7 (chain b8 (chain b9 (chain b10 (chain b11 b12)))))))⟩
                · have p1 : (p == 0) = false := beq_false_of_ne n1
                  have p2 : (r == 0) = false := beq_false_of_ne n2
                  have p3 : (o == 0) = false := beq_false_of_ne n3
                  go_wp2_with (first
                    | (go_at_call_of 8 (Value.string T1); refine (i1 _ hT4).mono ?_; rintro e v5 ⟨B1, rfl, r1, b5⟩; have t5 := hT4.call b5)
                    | (go_at_call_of 8 (Value.string T2); refine (i2 _ t5).mono ?_; rintro e v6 ⟨B2, rfl, r2, b6⟩; have t6 := t5.call b6)
                    | (go_at_call_of 8 (Value.string T3); refine (i3 _ t6).mono ?_; rintro e v7 ⟨B3, rfl, r3, b7⟩; have t7 := t6.call b7)
                    | (go_at_call_of 8 (Value.string T4); refine (i6 _ t7).mono ?_; rintro e v8 ⟨B4, rfl, r4, b8⟩; have s1 := (r1.call (chain b6 (chain b7 b8))).more (chain b6 (chain b7 b8)).size; have s2 := (r2.call (chain b7 b8)).more (chain b7 b8).size; have s3 := (r3.call b8).more b8.size)
                    | (go_at_call 10; (with_reducible refine (cS B1 B2 _ s1 s2).mono ?_); rintro e v9 ⟨rfl, b9⟩; have x1 := (s1.call b9).more b9.size; have x3 := (s3.call b9).more b9.size; have x4 := (r4.call b9).more b9.size)
                    | (go_at_call 10; (with_reducible refine (cS B1 B3 _ x1 x3).mono ?_); rintro e v10 ⟨rfl, b10⟩; have z10 := fA _ (chain b5 (chain b6 (chain b7 (chain b8 (chain b9 b10))))); have q10 := Nat.lt_of_lt_of_le qB (chain b5 (chain b6 (chain b7 (chain b8 (chain b9 b10))))).size; have w1 := (x1.call b10).more b10.size; have w4 := (x4.call b10).more b10.size)
                    | (go_at_call 13; refine (cK0 _).mono ?_; rintro e v11 ⟨rfl, b11⟩; have y1 := (w1.call b11).more b11.size; have y4 := (w4.call b11).more b11.size)
                    | (go_at_call 10; (with_reducible refine (cS B1 B4 _ y1 y4).mono ?_); rintro e v12 ⟨rfl, b12⟩)
                    | fail)
                  go_ret
                  exact ⟨rfl, chain J4 (chain b5 (chain b6 (chain b7 (chain b8 (chain b9 (chain b10 (chain b11 b12)))))))⟩
              · have cK0 : ∀ u, Calls Tryd.prog 13 #[.string (⟨#[35, 32]⟩ ++ si)] u (Tells (.tuple #[.int .i64 1, .int .i64 (W0 : Int)]) u.heap.size u) := fun u => by
                  have e := cK u
                  rw [if_neg hW] at e
                  exact e
                obtain ⟨y, m, hm0, i6⟩ := i5 hW
                have w1' : ((W0 : Int) == 0) = false := beq_false_of_ne (by omega)
                have w2' : ¬ ((W0 : Int) = 0) := by omega
                have m1 : (m == 0) = false := beq_false_of_ne hm0
                have m2 : (m != 0) = true := bne_iff_ne.2 hm0
                clear i4 i5 cK hW
                rcases hpqr with ⟨rfl, rfl, rfl⟩ | ⟨n1, n2, n3⟩
                · skip
                  go_wp2_with (first
                    | (go_at_call_of 8 (Value.string T1); refine (i1 _ hT4).mono ?_; rintro e v5 ⟨B1, rfl, r1, b5⟩; have t5 := hT4.call b5)
                    | (go_at_call_of 8 (Value.string T2); refine (i2 _ t5).mono ?_; rintro e v6 ⟨B2, rfl, r2, b6⟩; have t6 := t5.call b6)
                    | (go_at_call_of 8 (Value.string T3); refine (i3 _ t6).mono ?_; rintro e v7 ⟨B3, rfl, r3, b7⟩; have t7 := t6.call b7)
                    | (go_at_call_of 8 (Value.string T4); refine (i6 _ t7).mono ?_; rintro e v8 ⟨B4, rfl, r4, b8⟩; have s1 := (r1.call (chain b6 (chain b7 b8))).more (chain b6 (chain b7 b8)).size; have s2 := (r2.call (chain b7 b8)).more (chain b7 b8).size; have s3 := (r3.call b8).more b8.size)
                    | (go_at_call 10; (with_reducible refine (cS B1 B2 _ s1 s2).mono ?_); rintro e v9 ⟨rfl, b9⟩; have x1 := (s1.call b9).more b9.size; have x3 := (s3.call b9).more b9.size; have x4 := (r4.call b9).more b9.size)
                    | (go_at_call 10; (with_reducible refine (cS B1 B3 _ x1 x3).mono ?_); rintro e v10 ⟨rfl, b10⟩; have z10 := fA _ (chain b5 (chain b6 (chain b7 (chain b8 (chain b9 b10))))); have q10 := Nat.lt_of_lt_of_le qB (chain b5 (chain b6 (chain b7 (chain b8 (chain b9 b10))))).size; have w1 := (x1.call b10).more b10.size; have w4 := (x4.call b10).more b10.size)
                    | (go_at_call 13; refine (cK0 _).mono ?_; rintro e v11 ⟨rfl, b11⟩; have y1 := (w1.call b11).more b11.size; have y4 := (w4.call b11).more b11.size)
                    | fail)
                  go_ret
                  exact ⟨rfl, chain J4 (chain b5 (chain b6 (chain b7 (chain b8 (chain b9 (chain b10 b11))))))⟩
                · have p1 : (p == 0) = false := beq_false_of_ne n1
                  have p2 : (r == 0) = false := beq_false_of_ne n2
                  have p3 : (o == 0) = false := beq_false_of_ne n3
                  go_wp2_with (first
                    | (go_at_call_of 8 (Value.string T1); refine (i1 _ hT4).mono ?_; rintro e v5 ⟨B1, rfl, r1, b5⟩; have t5 := hT4.call b5)
                    | (go_at_call_of 8 (Value.string T2); refine (i2 _ t5).mono ?_; rintro e v6 ⟨B2, rfl, r2, b6⟩; have t6 := t5.call b6)
                    | (go_at_call_of 8 (Value.string T3); refine (i3 _ t6).mono ?_; rintro e v7 ⟨B3, rfl, r3, b7⟩; have t7 := t6.call b7)
                    | (go_at_call_of 8 (Value.string T4); refine (i6 _ t7).mono ?_; rintro e v8 ⟨B4, rfl, r4, b8⟩; have s1 := (r1.call (chain b6 (chain b7 b8))).more (chain b6 (chain b7 b8)).size; have s2 := (r2.call (chain b7 b8)).more (chain b7 b8).size; have s3 := (r3.call b8).more b8.size)
                    | (go_at_call 10; (with_reducible refine (cS B1 B2 _ s1 s2).mono ?_); rintro e v9 ⟨rfl, b9⟩; have x1 := (s1.call b9).more b9.size; have x3 := (s3.call b9).more b9.size; have x4 := (r4.call b9).more b9.size)
                    | (go_at_call 10; (with_reducible refine (cS B1 B3 _ x1 x3).mono ?_); rintro e v10 ⟨rfl, b10⟩; have z10 := fA _ (chain b5 (chain b6 (chain b7 (chain b8 (chain b9 b10))))); have q10 := Nat.lt_of_lt_of_le qB (chain b5 (chain b6 (chain b7 (chain b8 (chain b9 b10))))).size; have w1 := (x1.call b10).more b10.size; have w4 := (x4.call b10).more b10.size)
                    | (go_at_call 13; refine (cK0 _).mono ?_; rintro e v11 ⟨rfl, b11⟩; have y1 := (w1.call b11).more b11.size; have y4 := (w4.call b11).more b11.size)
                    | fail)
                  go_ret
                  exact ⟨rfl, chain J4 (chain b5 (chain b6 (chain b7 (chain b8 (chain b9 (chain b10 b11))))))⟩

theorem ledgerTurned_core (H : Type) (enc : TypeId × Value → H) (W : World) (base : Nat) (args : Array Value) (ds gs : List (DataW H)) (before : List MemPlace)
    (hval : ∀ (j : Nat) t v, Tryd.f4.params[j]? = some t → args[j]? = some v → Value.okWide Tryd.prog W .any base t v)
    (hW : DataW.Whole enc Tryd.prog Tryd.f4.params.toList Rows.ledgerTurnedSpec.vars false W args.toList ds gs before) (hT : TabU W) :
    gs = [] ∧ ds.length = 4 ∧ Calls Tryd.prog 4 args W (Tells (.bool true) W.heap.size W) := by
  obtain ⟨p, q, hA, hV, -, -, -⟩ := hW
  obtain ⟨rfl, rfl⟩ := trodVars_none hV
  have hA : DataW.TrodAll enc Tryd.prog W 0 (fun _ => true) true Tryd.f4.params.toList args.toList ds p := hA
  rw [Tryd.params4] at hA hval
  obtain ⟨v0, vs0, d0, ds0, p0, ps0, e0, rfl, -, h0, hA⟩ := trodAll_cons hA
  obtain ⟨v1, vs1, d1, ds1, p1, ps1, rfl, rfl, -, h1, hA⟩ := trodAll_cons hA
  obtain ⟨v2, vs2, d2, ds2, p2, ps2, rfl, rfl, -, h2, hA⟩ := trodAll_cons hA
  obtain ⟨v3, vs3, d3, ds3, p3, ps3, rfl, rfl, -, h3, hA⟩ := trodAll_cons hA
  obtain ⟨rfl, rfl, rfl⟩ := trodAll_nil hA
  obtain rfl : args = #[v0, v1, v2, v3] := Array.ext' e0
  obtain ⟨A, c, ss, rfl, hm, hn, hr⟩ := open_texts (hval 0 31 v0 rfl rfl) h0
  obtain ⟨h, rfl⟩ := okWide_int Tryd.underlying3 (hval 1 3 v1 rfl rfl)
  obtain ⟨a, rfl⟩ := okWide_int Tryd.underlying3 (hval 2 3 v2 rfl rfl)
  obtain ⟨b, rfl⟩ := okWide_int Tryd.underlying3 (hval 3 3 v3 rfl rfl)
  refine ⟨rfl, rfl, ?_⟩
  by_cases hl : ss.length = 0 ∨ 60 < ss.length
  · exact lturn_out A c ss h a b hl W hT
  · exact lturn_any A c ss h a b (by omega) (by omega) W hr hT

set_option maxRecDepth 100000 in
theorem ledgerTurned_lifted (os : Os) (started : os.Started) (H : Type) (enc : TypeId × Value → H) :
    ReturnsInHanded {} Tryd.checked os 4 .any (fun w args => (Rows.ledgerTurnedSpec.pre enc Tryd.prog Tryd.f4 [] false w args ∧ laidMetH Tryd.prog laidU w) ∧ sizedMet enc Tryd.prog Tryd.f4 (OpenSpec.ofChange Rows.ledgerTurnedSpec) false w args)
      (Rows.ledgerTurnedSpec.post enc Tryd.prog Tryd.f4 false true false false) := by
  refine returnsInHanded_of_change_and (C := Tryd.checked) (X := fun w _ => laidMetH Tryd.prog laidU w) (fun _ _ _ hh h => h.of_heap hh) own_knob started (by kernel_rfl) Tryd.func4
    (ChangeSpec.witness_shaped (enc := enc) (C := Tryd.checked) (os := os) (X := fun w _ => laidMetH Tryd.prog laidU w) false (World.laidAll Tryd.prog os laidU) #[.slice none 0 0, .int .i64 0, .int .i64 0, .int .i64 0] 8 (World.laidAll_os _ _ _) (World.shaped_of_ZipB (by kernel_rfl) (by kernel_rfl)) (by kernel_rfl) (by kernel_rfl) (by kernel_rfl) (met_U os _)) ?_
  intro W base args ds gs before hval0 hW _ hwt hL _
  have hval : ∀ (j : Nat) t v, Tryd.f4.params[j]? = some t → args[j]? = some v → Value.okWide Tryd.prog W .any base t v := hval0
  obtain ⟨hg, hlen, hc⟩ := ledgerTurned_core H enc W base args ds gs before hval hW (tab_of_laidU hL)
  subst hg
  have hr : (Tryd.f4.params.toList.all fun t => Tryd.prog.readableRec t && decide (t < Tryd.prog.types.size)) = true := by kernel_rfl
  have hread : ∀ t ∈ Tryd.f4.params.toList, Tryd.prog.readableRec t = true ∧ t < Tryd.prog.types.size := fun t ht => by
    have h := List.all_eq_true.1 hr t ht
    rw [Bool.and_eq_true, decide_eq_true_eq] at h
    exact h
  refine hc.mono fun e W' ⟨he, hb⟩ => ?_
  subst he
  match ds, hlen with
  | [d0, d1, d2, d3], _ => exact ⟨_, rfl, law_post laid_out Tryd.underlying4 rfl hread rfl hW rfl rfl rfl hb⟩

theorem ledgerTurned_holds : Rows.LedgerTurnedSaid :=
  OpenClaim.holds_of_wide 4 Tryd.f4 rfl rfl rfl rfl rfl rfl rfl ⟨rfl, rfl, rfl, rfl, rfl⟩ rfl rfl rfl rfl rfl (by kernel_rfl) Tryd.func4 (by kernel_rfl)
    (of_decide_eq_true (by kernel_rfl)) (by unfold Func.isWrapper; first | (rw [if_pos (by decide +kernel)]; kernel_rfl) | (rw [if_neg (by decide +kernel)]; exact ⟨rfl, rfl⟩))
    (fun os started H enc _ => ledgerTurned_lifted os started H enc)

theorem ledgerTurned_card : Rows.LedgerTurnedCardSaid :=
  Claim7.holds_tied_plain_at .later [] [.data, .pinned] true _ false
    ledgerTurned_holds (fun _ h => by cases h) (by kernel_rfl) (fun _ h => by cases h) ledgerTurned_row_tie rfl ⟨rfl, rfl⟩ (by kernel_rfl) rfl
    (fun f fn hf hfn => by
      obtain rfl : f = 4 := Option.some.inj ((show Tryd.prog.funcNamed "paymaster/paymasterlaw11.LedgerTurned" = some 4 by kernel_rfl).symm.trans hf) |>.symm
      obtain rfl : fn = Tryd.f4 := (Option.some.inj (Tryd.func4.symm.trans hfn)).symm
      exact ⟨by kernel_rfl, fun j t ht => by
        have hm : t ∈ Tryd.f4.params.toList := by simpa using Array.mem_of_getElem? ht
        have hall : (Tryd.f4.params.toList.all fun u => !Tryd.prog.wantsStandIn u) = true := by kernel_rfl
        exact (show Tryd.prog.wantsStandIn t = false by simpa using List.all_eq_true.1 hall t hm)⟩)
    (by kernel_rfl)

end Go.Proofs.YthindbmgnkohhaaDoor
