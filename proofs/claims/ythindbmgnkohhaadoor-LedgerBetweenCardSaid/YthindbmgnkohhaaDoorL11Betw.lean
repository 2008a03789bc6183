/-
  The law LedgerBetween: who goes and who stays are the first ledger, who stays and who comes the second one; nobody goes and comes. Conditions: none.
-/
import Derived.Test.YthindbmgnkohhaaDoorM11Chk
import Derived.Test.YthindbmgnkohhaaDoorU11Betw
import Derived.Test.YthindbmgnkohhaaDoorU11Find
import Derived.Maps.AppendAt
import Derived.Test.YthindbmgnkohhaaDoorD11Laws
import Derived.Test.YthindbmgnkohhaaDoorW10Laid
import Derived.ChangeMaps
namespace Go.Proofs.YthindbmgnkohhaaDoor
set_option linter.unusedVariables false
set_option linter.unusedSimpArgs false
set_option maxRecDepth 10000
open Go.ChangeShapes Go.WideShapes Go.ChangeAt Go.RowKit Go.Sort

/-- append of rows to a row of the call's own: a row that lies anywhere, an empty one too. -/
theorem app_rowsX (w : World) (base : Nat) (v : Value) (n : Nat) (ys : List Rw) (hown : w.ownsRow base 50 3 v n (rowCs ys)) (X : Option Addr) (m c : Nat) (zs : List Rw) (hz : zs.length = m) (hX : X = none → c = 0) (hr : RwRow w w.heap.size X zs)
    (hm : n + m ≤ 1000000) (hb : base ≤ w.heap.size) :
    ∃ v' w', (∀ ty, (Builtin.append_ #[23, 23] ty #[v, .slice X m c]).run Tryd.prog w = .ok v' w') ∧ w'.ownsRow base 50 3 v' (n + m) (rowCs (ys ++ zs)) ∧ w.grownBy w' v.ownBlock ∧ (v'.ownBlock = v.ownBlock ∨ v'.ownBlock = some w.heap.size) := by
  cases X with
  | none =>
    have e : zs = [] := by
      cases zs with
      | nil => rfl
      | cons z r => obtain ⟨ad, e, -⟩ := hr 0 z rfl; cases e
    subst e
    have hm0 : m = 0 := hz.symm
    subst hm0
    have hc0 := hX rfl
    subst hc0
    refine ⟨v, w, fun ty => app_none w v n 0 ?_ ty, by simpa using hown, World.grownBy.refl _ _, .inl rfl⟩
    rcases hown.2 with ⟨h1, -⟩ | ⟨g, cap, cur, h1, -, -, h2, -⟩
    · exact .inl h1
    · exact .inr ⟨g, cap, h1, h2⟩
  | some ad =>
    obtain ⟨i0, hi, hz0, hz1, hz2⟩ := info_parts infoS_row
    obtain ⟨v', w', hrn, h2, h3, -, h4⟩ := run_append_own_at (P := Tryd.prog) w base 23 0 50 i0 _ 3 32 Tryd.underlying23 hi hz0 hz1 hz2 rfl (by decide) v n (rowCs ys) hown ad m c (rowCs zs) (by rw [rowCs_len3, hz]) hr.cells (rowCs_one zs) (by unfold maxLen; omega) (by omega) hb
    rw [← rowCs_app] at h2
    exact ⟨v', w', fun ty => (run_append_ty w 23 ty 0 v _).trans hrn, h2, h3, h4⟩
set_option maxRecDepth 100000 in
set_option maxHeartbeats 2000000 in
theorem lbetw_long (A B : Option Addr) (c d : Nat) (xs ys : List Rw) (hm : xs.length ≤ 9223372036854775807) (hn : ys.length ≤ 9223372036854775807) (h : longR xs = true ∨ longR ys = true) (w : World) (hR : RwRow w w.heap.size A xs) (hS : RwRow w w.heap.size B ys) (hT : TabU w) :
    Calls Tryd.prog 7 #[.slice A xs.length c, .slice B ys.length d] w (Tells (.bool true) w.heap.size w) := by
  have cA := fun u hu => awake11_any u hu
  have cX := fun u hu => longR_any A c xs hm u hu
  have cY := fun u hu => longR_any B d ys hn u hu
  cases hx : longR xs with
  | true =>
    rw [hx] at cX
    clear h hx
    go_enter Tryd.func7, Tryd.ntmps7
    go_wp2_with (first
      | (go_at_call 11; refine (cA _ hT).mono ?_; rintro e w1 ⟨rfl, j1⟩; have hR1 := (hR.call j1).more j1.size)
      | (go_at_call 14; refine (cX _ hR1).mono ?_; rintro e w2 ⟨rfl, rfl⟩)
      | fail)
    go_ret
    exact ⟨rfl, j1⟩
  | false =>
    rw [hx] at cX h
    have hy : longR ys = true := by simpa using h
    rw [hy] at cY
    clear h hx hy
    go_enter Tryd.func7, Tryd.ntmps7
    go_wp2_with (first
      | (go_at_call 11; refine (cA _ hT).mono ?_; rintro e w1 ⟨rfl, j1⟩; have hR1 := (hR.call j1).more j1.size; have hS1 := (hS.call j1).more j1.size)
      | (go_at_call 14; (with_reducible refine (cX _ hR1).mono ?_); rintro e w2 ⟨rfl, rfl⟩)
      | (go_at_call 14; (with_reducible refine (cY _ hS1).mono ?_); rintro e w2 ⟨rfl, rfl⟩)
      | fail)
    go_ret
    exact ⟨rfl, j1⟩
set_option maxRecDepth 100000 in
set_option maxHeartbeats 2000000 in
theorem lbetw_bad (A B : Option Addr) (c d : Nat) (xs ys : List Rw) (h1 : longR xs = false) (h2 : longR ys = false) (m1 : xs.length ≤ 200) (m2 : ys.length ≤ 200) (z1 : ∀ x ∈ xs, x.id.size ≤ 200) (z2 : ∀ x ∈ ys, x.id.size ≤ 200) (o1 : ∀ x ∈ xs, x.ok) (o2 : ∀ x ∈ ys, x.ok)
    (hb : (chkF (2 ^ 10) [] 0 xs).2 ≠ 0 ∨ (chkF (2 ^ 10) [] 0 ys).2 ≠ 0) (w : World) (hR : RwRow w w.heap.size A xs) (hS : RwRow w w.heap.size B ys) (hT : TabU w) :
    Calls Tryd.prog 7 #[.slice A xs.length c, .slice B ys.length d] w (Tells (.bool true) w.heap.size w) := by
  have cA := fun u hu => awake11_any u hu
  have cX := fun u hu => longR_any A c xs (by omega) u hu
  have cY := fun u hu => longR_any B d ys (by omega) u hu
  rw [h1] at cX
  rw [h2] at cY
  have cC : ∀ u, TabU u → RwRow u u.heap.size A xs → Calls Tryd.prog 15 #[.slice A xs.length c, .int .i64 10] u (Tells (.tuple #[.int .i64 ((chkF (2 ^ 10) [] 0 xs).1 : Int), .int .i64 ((chkF (2 ^ 10) [] 0 xs).2 : Int)]) u.heap.size u) := fun u hu hv => lcheck_any A c xs (by omega) o1 (fun x k => by have := z1 x k; omega) 10 (by omega) u hu hv
  have cD : ∀ u, TabU u → RwRow u u.heap.size B ys → Calls Tryd.prog 15 #[.slice B ys.length d, .int .i64 10] u (Tells (.tuple #[.int .i64 ((chkF (2 ^ 10) [] 0 ys).1 : Int), .int .i64 ((chkF (2 ^ 10) [] 0 ys).2 : Int)]) u.heap.size u) := fun u hu hv => lcheck_any B d ys (by omega) o2 (fun x k => by have := z2 x k; omega) 10 (by omega) u hu hv
  generalize (chkF (2 ^ 10) [] 0 xs).1 = K1 at *
  generalize (chkF (2 ^ 10) [] 0 xs).2 = E1 at *
  generalize (chkF (2 ^ 10) [] 0 ys).1 = K2 at *
  generalize (chkF (2 ^ 10) [] 0 ys).2 = E2 at *
  obtain ⟨n, hn⟩ : ∃ n, xs.length = n := ⟨_, rfl⟩
  obtain ⟨m, hm⟩ : ∃ m, ys.length = m := ⟨_, rfl⟩
  rw [hn] at cX cC ⊢
  rw [hm] at cY cD ⊢
  clear hn hm h1 h2 m1 m2 z1 z2 o1 o2
  have hb2 : ((((E1 : Int) == 0) = false) ∧ ¬ ((E1 : Int) = 0)) ∨ ((((E1 : Int) == 0) = true) ∧ ((E1 : Int) = 0)) ∧ ((((E2 : Int) == 0) = false) ∧ ¬ ((E2 : Int) = 0)) := by
    by_cases e : E1 = 0
    · exact .inr ⟨⟨by rw [beq_iff_eq]; omega, by omega⟩, beq_false_of_ne (by omega), by omega⟩
    · exact .inl ⟨beq_false_of_ne (by omega), by omega⟩
  clear hb
  generalize (E1 : Int) = F1 at *
  generalize (E2 : Int) = F2 at *
  rcases hb2 with ⟨q1, q2⟩ | ⟨⟨q0, rfl⟩, q1, q2⟩ <;>
  · go_enter Tryd.func7, Tryd.ntmps7
    go_wp2_with (first
      | (go_at_call 11; refine (cA _ hT).mono ?_; rintro e w1 ⟨rfl, j1⟩; have hR1 := (hR.call j1).more j1.size; have hS1 := (hS.call j1).more j1.size)
      | (go_at_call 14; (with_reducible refine (cX _ hR1).mono ?_); rintro e w2 ⟨rfl, rfl⟩)
      | (go_at_call 14; (with_reducible refine (cY _ hS1).mono ?_); rintro e w2 ⟨rfl, rfl⟩)
      | (go_at_call_of 15 (Value.slice A n c); refine (cC _ (hT.call j1) hR1).mono ?_; rintro e w3 ⟨rfl, j3⟩; have hS3 := (hS1.call j3).more j3.size; have j13 := chain j1 j3)
      | (go_at_call_of 15 (Value.slice B m d); refine (cD _ (hT.call j13) hS3).mono ?_; rintro e w4 ⟨rfl, j4⟩)
      | fail)
    go_ret
    exact ⟨rfl, chain j13 j4⟩

set_option maxRecDepth 100000 in
set_option maxHeartbeats 4000000 in
theorem lbetw_short (A B : Option Addr) (c d : Nat) (xs ys : List Rw) (h1 : longR xs = false) (h2 : longR ys = false) (m1 : xs.length ≤ 200) (m2 : ys.length ≤ 200) (z1 : ∀ x ∈ xs, x.id.size ≤ 200) (z2 : ∀ x ∈ ys, x.id.size ≤ 200) (o1 : ∀ x ∈ xs, x.ok) (o2 : ∀ x ∈ ys, x.ok)
    (e1 : chkF (2 ^ 10) [] 0 xs = (0, 0)) (e2 : chkF (2 ^ 10) [] 0 ys = (0, 0)) (hd1 : (xs.map keyR).Nodup) (hd2 : (ys.map keyR).Nodup) (w : World) (hR : RwRow w w.heap.size A xs) (hS : RwRow w w.heap.size B ys) (hT : TabU w) :
    Calls Tryd.prog 7 #[.slice A xs.length c, .slice B ys.length d] w (Tells (.bool true) w.heap.size w) := by
  have cA := fun u hu => awake11_any u hu
  have cX := fun u hu => longR_any A c xs (by omega) u hu
  have cY := fun u hu => longR_any B d ys (by omega) u hu
  rw [h1] at cX
  rw [h2] at cY
  have cC : ∀ u, TabU u → RwRow u u.heap.size A xs → Calls Tryd.prog 15 #[.slice A xs.length c, .int .i64 10] u (Tells (.tuple #[.int .i64 ((chkF (2 ^ 10) [] 0 xs).1 : Int), .int .i64 ((chkF (2 ^ 10) [] 0 xs).2 : Int)]) u.heap.size u) := fun u hu hv => lcheck_any A c xs (by omega) o1 (fun x k => by have := z1 x k; omega) 10 (by omega) u hu hv
  have cD : ∀ u, TabU u → RwRow u u.heap.size B ys → Calls Tryd.prog 15 #[.slice B ys.length d, .int .i64 10] u (Tells (.tuple #[.int .i64 ((chkF (2 ^ 10) [] 0 ys).1 : Int), .int .i64 ((chkF (2 ^ 10) [] 0 ys).2 : Int)]) u.heap.size u) := fun u hu hv => lcheck_any B d ys (by omega) o2 (fun x k => by have := z2 x k; omega) 10 (by omega) u hu hv
  rw [e1] at cC
  rw [e2] at cD
  have cB := fun u hu hv => between_any A B c d xs ys (by omega) (by omega) (fun x hx => by have := z1 x hx; omega) (fun x hx => by have := z2 x hx; omega) u hu hv
  have cBB := fun u hu hv => between_any A A c c xs xs (by omega) (by omega) (fun x hx => by have := z1 x hx; omega) (fun x hx => by have := z1 x hx; omega) u hu hv
  rw [out_self, in_self] at cBB
  have cFX := fun (k : List UInt8) s (e : s.data.toList = k) u hu => find_any A c xs s (by omega) (fun x hx => by have := z1 x hx; omega) u hu
  have cFY := fun (k : List UInt8) s (e : s.data.toList = k) u hu => find_any B d ys s (by omega) (fun x hx => by have := z2 x hx; omega) u hu
  obtain ⟨zs, hz⟩ := sd_exists ys
  obtain ⟨qs, hq⟩ := sd_exists xs
  have cSX : ∀ u, RwRow u u.heap.size A xs → Calls Tryd.prog 17 #[.slice A xs.length c] u fun e w' => ∃ A6, e = .returned (.slice A6 qs.length qs.length) ∧ RwRow w' w'.heap.size A6 qs ∧ Below u.heap.size u w' := fun u hu =>
    (rowsort3_any A c xs (by omega) (fun x k => by have := z1 x k; omega) u hu).mono fun e w' k => by
      obtain ⟨v, ps, k1, k2, k3⟩ := k
      obtain rfl := k2.1.same hq
      obtain ⟨A6, k4, k5⟩ := k2.row
      exact ⟨A6, by rw [k1, k4], k5, k3⟩
  have cSY : ∀ u, RwRow u u.heap.size B ys → Calls Tryd.prog 17 #[.slice B ys.length d] u fun e w' => ∃ A6, e = .returned (.slice A6 zs.length zs.length) ∧ RwRow w' w'.heap.size A6 zs ∧ Below u.heap.size u w' := fun u hu =>
    (rowsort3_any B d ys (by omega) (fun x k => by have := z2 x k; omega) u hu).mono fun e w' k => by
      obtain ⟨v, ps, k1, k2, k3⟩ := k
      obtain rfl := k2.1.same hz
      obtain ⟨A6, k4, k5⟩ := k2.row
      exact ⟨A6, by rw [k1, k4], k5, k3⟩
  have cBB : ∀ u, RwRow u u.heap.size A xs → Calls Tryd.prog 22 #[.slice A xs.length c, .slice A xs.length c] u fun e w' => ∃ A1 A2 A3, e = .returned (.tuple #[.slice A1 0 0, .slice A2 qs.length qs.length, .slice A3 0 0]) ∧ RwRow w' w'.heap.size A2 qs ∧ Below u.heap.size u w' := fun u hu =>
    (cBB u hu hu).mono fun e w' k => by
      obtain ⟨v1, v2, v3, l1, l2, l3, k0, k1, k2, k3, k4⟩ := k
      obtain rfl := k2.1.same hq
      have e1 := k1.2.1
      have e3 := k3.2.1
      obtain ⟨A1, rfl, -⟩ := k1.row
      obtain ⟨A2, rfl, r2⟩ := k2.row
      obtain ⟨A3, rfl, -⟩ := k3.row
      rw [e1, e3] at k0
      exact ⟨A1, A2, A3, k0, r2, k4⟩
  have HZ := hideIt hz
  have HQ := hideIt hq
  have a1 := outL_len xs ys
  have a2 := inL_len ys xs
  have a3 := outL_len ys xs
  have a4 := len_parts hd1 hd2
  clear h1 h2 e1 e2 hz hq
  go_enter Tryd.func7, Tryd.ntmps7
  go_upto_region 10 with (first
      | (go_at_call 11; refine (cA _ hT).mono ?_; rintro e w1 ⟨rfl, j1⟩; have hR1 := (hR.call j1).more j1.size; have hS1 := (hS.call j1).more j1.size)
      | (go_at_call 14; (with_reducible refine (cX _ hR1).mono ?_); rintro e w2 ⟨rfl, rfl⟩)
      | (go_at_call 14; (with_reducible refine (cY _ hS1).mono ?_); rintro e w2 ⟨rfl, rfl⟩)
      | (go_at_call_of 15 (Value.slice A xs.length c); refine (cC _ (hT.call j1) hR1).mono ?_; rintro e w3 ⟨rfl, j3⟩; have hR3 := (hR1.call j3).more j3.size; have hS3 := (hS1.call j3).more j3.size; have j13 := chain j1 j3)
      | (go_at_call_of 15 (Value.slice B ys.length d); refine (cD _ (hT.call j13) hS3).mono ?_; rintro e w4 ⟨rfl, j4⟩; have hR4 := (hR3.call j4).more j4.size; have hS4 := (hS3.call j4).more j4.size; have j14 := chain j13 j4)
      | (go_at_call 22; refine (cB _ hR4 hS4).mono ?_; rintro e w5 ⟨v1, v2, v3, l1, l2, l3, rfl, S1, S2, S3, j5⟩; have hR5 := (hR4.call j5).more j5.size; have hS5 := (hS4.call j5).more j5.size; have j15 := chain j14 j5)
      | fail)
  clear hR1 hS1 hR3 hS3 hR4 hS4 j1 j3 j13 j4 j14 j5 cA cX cY cC cD cB
  have q1 := S1.2.1
  have q2 := S2.2.1
  have q3 := S3.2.1
  have i1 := S1.1.ids (fun x hx => z1 x (outL_mem hx).1)
  have i2 := S2.1.ids (fun x hx => z2 x (inL_mem hx).1)
  have i3 := S3.1.ids (fun x hx => z2 x (outL_mem hx).1)
  have g1 : ∀ x ∈ l1, x ∈ xs ∧ hasK ys (keyR x) = false := fun x hx => outL_mem (by rw [mem_fil, ← S1.1.2, ← mem_fil]; exact hx)
  have g3 : ∀ x ∈ l3, x ∈ ys ∧ hasK xs (keyR x) = false := fun x hx => outL_mem (by rw [mem_fil, ← S3.1.2, ← mem_fil]; exact hx)
  have hzs : ∀ ps, Sd (l2 ++ l3) ps → ps = zs := fun ps hp => (sd_parts S2.1 S3.1 hp).same HZ.out
  have hln : (l1.length : Int) + (l2.length : Int) = (xs.length : Int) := by omega
  have hzl : zs.length = ys.length := by rw [← HZ.out.perm.length_eq]
  have hql : qs.length = xs.length := by rw [← HQ.out.perm.length_eq]
  obtain ⟨A1, rfl, R1⟩ := S1.row
  obtain ⟨A2, rfl, R2⟩ := S2.row
  obtain ⟨A3, rfl, R3⟩ := S3.row
  have cP : ∀ X k u, RwRow u u.heap.size X (l2 ++ l3) → Calls Tryd.prog 17 #[.slice X (l2.length + l3.length) k] u fun e w' => ∃ A6, e = .returned (.slice A6 zs.length zs.length) ∧ RwRow w' w'.heap.size A6 zs ∧ Below u.heap.size u w' := fun X k u hu => by
    have h := rowsort3_any X k (l2 ++ l3) (by simp; omega) (fun x hx => by
      rcases List.mem_append.1 hx with hx | hx
      · have := i2 x hx; omega
      · have := i3 x hx; omega) u hu
    rw [List.length_append] at h
    refine h.mono fun e w' k => ?_
    obtain ⟨v, ps, k1, k2, k3⟩ := k
    obtain rfl := hzs ps k2.1
    obtain ⟨A6, k4, k5⟩ := k2.row
    exact ⟨A6, by rw [k1, k4], k5, k3⟩
  have cQ := fun X Y a b u hu hv => rsame_any X Y a b zs (by omega) u hu hv
  have cQ2 := fun X Y a b u hu hv => rsame_any X Y a b qs (by omega) u hu hv
  have b23 : l2.length ≤ 200 ∧ l3.length ≤ 200 := by omega
  clear S1 S2 S3 a1 a2 a3 a4
  have O0 := World.ownsRow_made w5 #[] 0 (base := w5.heap.size) (e := 50) (size := 3) (Nat.le_refl _) (by unfold maxLen; omega) rfl
  obtain ⟨v6, w6, r6, O6, hg6, hl6⟩ := app_rowsX (w5.alloc (.cells #[] 50)) w5.heap.size _ 0 [] O0 A2 l2.length l2.length l2 rfl (fun h => by subst h; cases l2 with | nil => rfl | cons x r => obtain ⟨_, e, _⟩ := R2 0 x rfl; cases e) ((R2.call (chainA (Below.refl _ _) _)).more (by simp)) (by omega) (by simp)
  have L6 : Below w5.heap.size w5 w6 := (chainA (Below.refl w5.heap.size w5) (.cells #[] 50)).grown hg6 (by simp) (fun j hj => by injection hj with hj; subst hj; exact Nat.le_refl _)
  rw [List.nil_append, Nat.zero_add] at O6
  obtain ⟨v7, w7, r7, O7, hg7, hl7⟩ := app_rowsX w6 w5.heap.size v6 l2.length l2 O6 A3 l3.length l3.length l3 rfl (fun h => by subst h; cases l3 with | nil => rfl | cons x r => obtain ⟨_, e, _⟩ := R3 0 x rfl; cases e) ((R3.call L6).more L6.size) (by omega) L6.size
  have L7 : Below w5.heap.size w5 w7 := L6.grown hg7 L6.size (fun j hj => (O6.lt j hj).1)
  rw [← List.length_append] at O7
  obtain ⟨X, k, rfl, -, R7⟩ := rows_of_own O7
  rw [List.length_append] at r7
  clear O0 hg6 hl6 O6 L6 hg7 hl7 O7
  obtain ⟨n1, hn1⟩ : ∃ n, l1.length = n := ⟨_, rfl⟩
  obtain ⟨n2, hn2⟩ : ∃ n, l2.length = n := ⟨_, rfl⟩
  obtain ⟨n3, hn3⟩ : ∃ n, l3.length = n := ⟨_, rfl⟩
  obtain ⟨n, hnn⟩ : ∃ n, xs.length = n := ⟨_, rfl⟩
  obtain ⟨m, hmm⟩ : ∃ n, ys.length = n := ⟨_, rfl⟩
  rw [hn1, hn2, hnn] at hln
  rw [hn1, hn2, hn3, hnn, hmm]
  rw [hn2] at r6 r7
  rw [hn3] at r7
  rw [hn2, hn3] at cP
  rw [hmm] at cSY hzl cFY
  rw [hnn] at cSX cBB hql cFX
  rw [hzl] at cP cQ cSY
  rw [hql] at cQ2 cSX cBB
  have hS7 := (hS5.call L7).more L7.size
  go_upto_region 11 with (first
      | (at_builtin; refine wpList_run rfl _ _ _ rfl _ _ rfl rfl v6 w6 r6 ?_)
      | (at_builtin; refine wpList_run rfl _ _ _ rfl _ _ rfl rfl _ w7 r7 ?_)
      | (go_at_call_of 17 (Value.slice B m d); refine (cSY _ ((hS7.call j8).more j8.size)).mono ?_; rintro e w9 ⟨A9, rfl, R9, j9⟩; have R89 := (R8.call j9).more j9.size)
      | (go_at_call 17; refine (cP _ _ _ R7).mono ?_; rintro e w8 ⟨A8, rfl, R8, j8⟩)
      | (go_at_call 10; refine (cQ _ _ _ _ _ R89 R9).mono ?_; rintro e w10 ⟨rfl, j10⟩)
      | fail)
  have J := chain L7 (chain j8 (chain j9 j10))
  have hR10 := (hR5.call J).more J.size
  have hS10 := (hS5.call J).more J.size
  have R11 := (R1.call J).more J.size
  have R13 := (R3.call J).more J.size
  have J0 := chain j15 J
  clear hR5 hS5 R1 R2 R3 cP cQ cSY r6 r7 R7 R8 R9 R89 j8 j9 j10 L7 hS7 J j15 hzs HZ
  go_loopg [12] n1 (fun gk i wr => ∃ k : Nat, k ≤ n1 ∧ n1 - k ≤ gk ∧ i = .int .i64 k ∧ Below w10.heap.size w10 wr)
  case atStart => exact ⟨0, Nat.zero_le _, by omega, rfl, Below.refl _ _⟩
  case round =>
    obtain ⟨k, hk, hgk, rfl, hb⟩ := hrel
    have HG := hideIt hgk
    clear hgk
    by_cases hlt : k < n1
    · obtain ⟨x, hx⟩ : ∃ x, l1[k]? = some x := ⟨_, List.getElem?_eq_getElem (by omega)⟩
      obtain ⟨ad, rfl, had, p0, p1, p2⟩ := (R11.call hb) k x hx
      have hlti : (k : Int) < (n1 : Int) := by omega
      have hbs := hb.size
      have p3 : (ad.add (k * 3)).block < wr.heap.size := by rw [o10_block]; exact Nat.lt_of_lt_of_le had hb.size
      have HX := hideIt hx
      have cF1 := cFY (keyR x) x.id rfl
      have cF2 := cFX (keyR x) x.id rfl
      rw [show findR ys x.id.data.toList = (Rw.zero, false) from findR_not (g1 x (List.mem_of_getElem? hx)).2] at cF1
      rw [show findR xs x.id.data.toList = (x, true) from find_nodup hd1 (g1 x (List.mem_of_getElem? hx)).1] at cF2
      simp only [Rw.val, Rw.zero] at cF1 cF2
      clear hx
      have H0 := Has.start wr
      go_upto_region 16 with (first
        | (go_at_call 20; refine (cF1 _ ((hS10.call hb).more hbs)).mono ?_; rintro e w11 ⟨rfl, j1⟩)
        | fail)
      have H1 := (H0.call j1).add 50 #[.string ⟨#[]⟩, .int .u64 0, .int .u64 0]
      change Code.wp _ _ _ _ (w11.alloc (.cells #[.string ⟨#[]⟩, .int .u64 0, .int .u64 0] 50))
      generalize w11.alloc (.cells #[.string ⟨#[]⟩, .int .u64 0, .int .u64 0] 50) = W1 at *
      generalize w11.heap.size = g1' at *
      have j2 := H1.below
      obtain ⟨_, e', had', p0, p1, p2⟩ := ((R11.call hb).call (j2.mono hbs)) k x HX.out
      cases e'
      have p3 : (ad.add (k * 3)).block < W1.heap.size := by rw [o10_block]; exact Nat.lt_of_lt_of_le had' (Nat.le_trans hbs H1.size)
      go_upto_region 17 with (first
        | (go_at_call 20; refine (cF2 _ ((hR10.call (hb.trans (j2.mono hbs))).more (Nat.le_trans hbs H1.size))).mono ?_; rintro e w12 ⟨rfl, j3⟩)
        | fail)
      have H2 := (H1.call j3).add 50 #[.string x.id, .int .u64 x.h, .int .u64 x.l]
      change Code.wp _ _ _ _ (w12.alloc (.cells #[.string x.id, .int .u64 x.h, .int .u64 x.l] 50))
      generalize w12.alloc (.cells #[.string x.id, .int .u64 x.h, .int .u64 x.l] 50) = W2 at *
      generalize w12.heap.size = g2 at *
      clear H0 H1 j1 j3 j2 p0 p1 p2 p3
      have j4 := H2.below
      obtain ⟨_, e', had', p0, p1, p2⟩ := ((R11.call hb).call (j4.mono hbs)) k x HX.out
      cases e'
      have p3 : (ad.add (k * 3)).block < W2.heap.size := by rw [o10_block]; exact Nat.lt_of_lt_of_le had' (Nat.le_trans hbs H2.size)
      obtain ⟨f0, f1, f2, -, -, -, hin2⟩ := (H2.box 0).three
      have hq : ∀ (u : World), (binOp .neq 50 (.agg #[.string x.id, .int .u64 x.h, .int .u64 x.l]) (.agg #[.string x.id, .int .u64 x.h, .int .u64 x.l])).run Tryd.prog u = .ok (.bool false) u := fun u => by
        have h := run_neq_rw x x u
        rw [Rw.same_self] at h
        exact h
      clear cFX cFY cF1 cF2 cSX cBB cQ2
      go_quiet (fail)
      go_wp2
      go_roundg (n1 - (k + 1))
      case measure => have := HG.out; omega
      case rel => exact ⟨k + 1, by omega, Nat.le_refl _, by go_num, below_drewN (hb.trans (j4.mono hbs)) _⟩
    · have e : k = n1 := by omega
      subst e
      go_upto_region 20 with fail
      have J1 := chain J0 hb
      have hR20 := (hR10.call hb).more hb.size
      have R23 := (R13.call hb).more hb.size
      clear hR10 hS10 R11 R13 J0 HG cFY hlt
      go_loopg [17] n3 (fun gk i wr2 => ∃ k : Nat, k ≤ n3 ∧ n3 - k ≤ gk ∧ i = .int .i64 k ∧ Below wr.heap.size wr wr2)
      case atStart => exact ⟨0, Nat.zero_le _, by omega, rfl, Below.refl _ _⟩
      case round =>
        rename World => wq
        obtain ⟨q, hq, hgq, rfl, hb2⟩ := hrel
        have HG := hideIt hgq
        clear hgq
        by_cases hlt : q < n3
        · obtain ⟨x, hx⟩ : ∃ x, l3[q]? = some x := ⟨_, List.getElem?_eq_getElem (by omega)⟩
          obtain ⟨ad, rfl, had, p0, p1, p2⟩ := (R23.call hb2) q x hx
          have hlti : (q : Int) < (n3 : Int) := by omega
          have hbs := hb2.size
          have p3 : (ad.add (q * 3)).block < wq.heap.size := by rw [o10_block]; exact Nat.lt_of_lt_of_le had hbs
          have cF2 := cFX (keyR x) x.id rfl
          rw [show findR xs x.id.data.toList = (Rw.zero, false) from findR_not (g3 x (List.mem_of_getElem? hx)).2] at cF2
          simp only [Rw.val, Rw.zero] at cF2
          clear hx
          have H0 := Has.start wq
          go_upto_region 23 with (first
            | (go_at_call 20; refine (cF2 _ ((hR20.call hb2).more hbs)).mono ?_; rintro e w11 ⟨rfl, j1⟩)
            | fail)
          have H1 := (H0.call j1).add 50 #[.string ⟨#[]⟩, .int .u64 0, .int .u64 0]
          change Code.wp _ _ _ _ (w11.alloc (.cells #[.string ⟨#[]⟩, .int .u64 0, .int .u64 0] 50))
          generalize w11.alloc (.cells #[.string ⟨#[]⟩, .int .u64 0, .int .u64 0] 50) = W1 at *
          have j2 := H1.below
          go_wp2
          go_roundg (n3 - (q + 1))
          case measure => have := HG.out; omega
          case rel => exact ⟨q + 1, by omega, Nat.le_refl _, by go_num, hb2.trans (j2.mono hbs)⟩
        · have e : q = n3 := by omega
          subst e
          have hR30 := (hR20.call hb2).more hb2.size
          clear hR20 R23 HG cFX hlt
          go_wp2_with (first
            | (go_at_call 22; refine (cBB _ hR30).mono ?_; rintro e w20 ⟨B1, B2, B3, rfl, R20, j20⟩; have hR31 := (hR30.call j20).more j20.size)
            | (go_at_call 17; refine (cSX _ hR31).mono ?_; rintro e w21 ⟨B4, rfl, R21, j21⟩; have R22 := (R20.call j21).more j21.size)
            | (go_at_call 10; refine (cQ2 _ _ _ _ _ R22 R21).mono ?_; rintro e w22 ⟨rfl, j22⟩)
            | fail)
          go_ret
          exact ⟨rfl, chain (chain J1 hb2) (chain j20 (chain j21 j22))⟩

theorem ledgerBetween_core (H : Type) (enc : TypeId × Value → H) (W : World) (base : Nat) (args : Array Value) (ds gs : List (DataW H)) (before : List MemPlace)
    (hval : ∀ (j : Nat) t v, Tryd.f7.params[j]? = some t → args[j]? = some v → Value.okWide Tryd.prog W .any base t v)
    (hW : DataW.Whole enc Tryd.prog Tryd.f7.params.toList Rows.ledgerBetweenSpec.vars false W args.toList ds gs before) (hT : TabU W) :
    gs = [] ∧ ds.length = 2 ∧ Calls Tryd.prog 7 args W (Tells (.bool true) W.heap.size W) := by
  obtain ⟨p, q, hA, hV, -, -, -⟩ := hW
  obtain ⟨rfl, rfl⟩ := trodVars_none hV
  have hA : DataW.TrodAll enc Tryd.prog W 0 (fun _ => true) true Tryd.f7.params.toList args.toList ds p := hA
  rw [Tryd.params7] at hA hval
  obtain ⟨v0, vs0, d0, ds0, p0, ps0, e0, rfl, -, h0, hA⟩ := trodAll_cons hA
  obtain ⟨v1, vs1, d1, ds1, p1, ps1, rfl, rfl, -, h1, hA⟩ := trodAll_cons hA
  obtain ⟨rfl, rfl, rfl⟩ := trodAll_nil hA
  obtain rfl : args = #[v0, v1] := Array.ext' e0
  obtain ⟨A, c, xs, rfl, x1, -, -, x2, x3⟩ := open_rows (hval 0 23 v0 rfl rfl) h0
  obtain ⟨B, d, ys, rfl, y1, -, -, y2, y3⟩ := open_rows (hval 1 23 v1 rfl rfl) h1
  refine ⟨rfl, rfl, ?_⟩
  by_cases h : longR xs = true ∨ longR ys = true
  · exact lbetw_long A B c d xs ys x1 y1 h W x3 y3 hT
  · rw [not_or] at h
    obtain ⟨h1, h2⟩ := h
    have h1 : longR xs = false := by cases e : longR xs; rfl; exact absurd e h1
    have h2 : longR ys = false := by cases e : longR ys; rfl; exact absurd e h2
    obtain ⟨m1, z1⟩ := longR_no h1
    obtain ⟨m2, z2⟩ := longR_no h2
    rcases chkF_spec (2 ^ 10) xs [] 0 (good_nil _) with ⟨a1, a2, -⟩ | ⟨k, E, a1, a2, a3, -⟩
    · rcases chkF_spec (2 ^ 10) ys [] 0 (good_nil _) with ⟨b1, b2, -⟩ | ⟨k, E, b1, b2, b3, -⟩
      · rw [List.nil_append] at a2 b2
        exact lbetw_short A B c d xs ys h1 h2 m1 m2 z1 z2 x2 y2 a1 b1 a2.2.1 b2.2.1 W x3 y3 hT
      · exact lbetw_bad A B c d xs ys h1 h2 m1 m2 z1 z2 x2 y2 (.inr (by rw [b1]; exact b3)) W x3 y3 hT
    · exact lbetw_bad A B c d xs ys h1 h2 m1 m2 z1 z2 x2 y2 (.inl (by rw [a1]; exact a3)) W x3 y3 hT

set_option maxRecDepth 100000 in
theorem ledgerBetween_lifted (os : Os) (started : os.Started) (H : Type) (enc : TypeId × Value → H) :
    ReturnsInHanded {} Tryd.checked os 7 .any (fun w args => (Rows.ledgerBetweenSpec.pre enc Tryd.prog Tryd.f7 [] false w args ∧ laidMetH Tryd.prog laidU w) ∧ sizedMet enc Tryd.prog Tryd.f7 (OpenSpec.ofChange Rows.ledgerBetweenSpec) false w args)
      (Rows.ledgerBetweenSpec.post enc Tryd.prog Tryd.f7 false true false false) := by
  refine returnsInHanded_of_change_and (C := Tryd.checked) (X := fun w _ => laidMetH Tryd.prog laidU w) (fun _ _ _ hh h => h.of_heap hh) own_knob started (by kernel_rfl) Tryd.func7
    (ChangeSpec.witness_shaped (enc := enc) (C := Tryd.checked) (os := os) (X := fun w _ => laidMetH Tryd.prog laidU w) false (World.laidAll Tryd.prog os laidU) #[.slice none 0 0, .slice none 0 0] 8 (World.laidAll_os _ _ _) (World.shaped_of_ZipB (by kernel_rfl) (by kernel_rfl)) (by kernel_rfl) (by kernel_rfl) (by kernel_rfl) (met_U os _)) ?_
  intro W base args ds gs before hval0 hW _ hwt hL _
  have hval : ∀ (j : Nat) t v, Tryd.f7.params[j]? = some t → args[j]? = some v → Value.okWide Tryd.prog W .any base t v := hval0
  obtain ⟨hg, hlen, hc⟩ := ledgerBetween_core H enc W base args ds gs before hval hW (tab_of_laidU hL)
  subst hg
  have hr : (Tryd.f7.params.toList.all fun t => Tryd.prog.readableRec t && decide (t < Tryd.prog.types.size)) = true := by kernel_rfl
  have hread : ∀ t ∈ Tryd.f7.params.toList, Tryd.prog.readableRec t = true ∧ t < Tryd.prog.types.size := fun t ht => by
    have h := List.all_eq_true.1 hr t ht
    rw [Bool.and_eq_true, decide_eq_true_eq] at h
    exact h
  refine hc.mono fun e W' ⟨he, hb⟩ => ?_
  subst he
  match ds, hlen with
  | [d0, d1], _ => exact ⟨_, rfl, law_post laid_out Tryd.underlying4 rfl hread rfl hW rfl rfl rfl hb⟩

theorem ledgerBetween_holds : Rows.LedgerBetweenSaid :=
  OpenClaim.holds_of_wide 7 Tryd.f7 rfl rfl rfl rfl rfl rfl rfl ⟨rfl, rfl, rfl, rfl, rfl⟩ rfl rfl rfl rfl rfl (by kernel_rfl) Tryd.func7 (by kernel_rfl)
    (of_decide_eq_true (by kernel_rfl)) (by unfold Func.isWrapper; first | (rw [if_pos (by decide +kernel)]; kernel_rfl) | (rw [if_neg (by decide +kernel)]; exact ⟨rfl, rfl⟩))
    (fun os started H enc _ => ledgerBetween_lifted os started H enc)

theorem ledgerBetween_card : Rows.LedgerBetweenCardSaid :=
  Claim7.holds_tied_plain_at .later [] [.data, .pinned] true _ false
    ledgerBetween_holds (fun _ h => by cases h) (by kernel_rfl) (fun _ h => by cases h) ledgerBetween_row_tie rfl ⟨rfl, rfl⟩ (by kernel_rfl) rfl
    (fun f fn hf hfn => by
      obtain rfl : f = 7 := Option.some.inj ((show Tryd.prog.funcNamed "paymaster/paymasterlaw11.LedgerBetween" = some 7 by kernel_rfl).symm.trans hf) |>.symm
      obtain rfl : fn = Tryd.f7 := (Option.some.inj (Tryd.func7.symm.trans hfn)).symm
      exact ⟨by kernel_rfl, fun j t ht => by
        have hm : t ∈ Tryd.f7.params.toList := by simpa using Array.mem_of_getElem? ht
        have hall : (Tryd.f7.params.toList.all fun u => !Tryd.prog.wantsStandIn u) = true := by kernel_rfl
        exact (show Tryd.prog.wantsStandIn t = false by simpa using List.all_eq_true.1 hall t hm)⟩)
    (by kernel_rfl)

end Go.Proofs.YthindbmgnkohhaaDoor
