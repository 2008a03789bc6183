/- Several of my texts, laid as one. -/
import Derived.Test.YtjndabnegmecmaaGreatDoorRows
import Derived.Test.YtjndabnegmecmaaGreatDoorW0Words
import Derived.Test.YtjndabnegmecmaaGreatDoorM13Nod
import Derived.Test.YtjndabnegmecmaaGreatDoorM14Ref
import Derived.Test.YtjndabnegmecmaaGreatDoorM15Pln
import Derived.Deep.AppendLies
import Derived.Deep.RegionHeld3
import Derived.Test.YtjndabnegmecmaaGreatDoorT15Leaf
import Derived.Test.YtjndabnegmecmaaGreatDoorM7Rn
import Derived.Test.YtjndabnegmecmaaGreatDoorM15Law
/-
  paymasterref15's Height, walked (in a trial seat, ahead of the program).
-/
namespace Go.Proofs.YtjndabnegmecmaaGreatDoor
set_option linter.unusedVariables false
set_option linter.unusedSimpArgs false
set_option maxRecDepth 10000
open Go.RowKit

/-- The height of so many leaves; below 0: there is none. -/
def htN (m : Nat) : Int := if m ≠ 0 ∧ m = 2 ^ Nat.log2 m ∧ Nat.log2 m ≤ 10 then (Nat.log2 m : Int) else -1
theorem ht_end : ∀ m : Nat, m < 301 → ∀ h : Nat, h < 11 → (h = 0 ∨ 2 ^ (h - 1) < m) → (¬ 2 ^ h < m ∨ h = 10) → htN m = if 2 ^ h = m then (h : Int) else -1 := by decide +kernel
set_option maxHeartbeats 2000000 in
theorem rheight15_any (m : Nat) (hm : m ≤ 300) (w : World) : Calls Tryz.prog 16 #[.int .i64 m] w (Plain (.int .i64 (htN m)) w) := by
  go_enter Tryz.func16, Tryz.ntmps16
  go_wp2
  go_loopg [3, 4] 10 (fun gk a b wr => ∃ h q : Nat, h ≤ 10 ∧ 10 - h ≤ gk ∧ a = .int .i64 h ∧ b = .int .i64 q ∧ q = 2 ^ h ∧ (h = 0 ∨ 2 ^ (h - 1) < m) ∧ q ≤ 1024 ∧ wr = w)
  case atStart => exact ⟨0, 1, by omega, by omega, rfl, rfl, rfl, Or.inl rfl, by omega, rfl⟩
  case round =>
    obtain ⟨h, q, hh, hgk, rfl, rfl, hq, hlow, hqb, rfl⟩ := hrel
    have HG := hideIt hgk
    have HQ := hideIt hq
    have HL := hideIt hlow
    clear hgk hq hlow
    by_cases h1 : q < m
    · have h1i : (q : Int) < (m : Int) := by omega
      by_cases h2 : h < 10
      · have h2i : (h : Int) < 10 := by omega
        have e1 : IntKind.i64.wrap (2 * (q : Int)) = ((2 * q : Nat) : Int) := by rw [IntKind.wrap_i64]; omega
        obtain ⟨q2, hq2⟩ : ∃ q2, 2 * q = q2 := ⟨_, rfl⟩
        rw [hq2] at e1
        go_wp2
        go_roundg (10 - (h + 1))
        case measure => have := HG.out; omega
        case rel => exact ⟨h + 1, q2, by omega, Nat.le_refl _, by go_num, rfl, by rw [← hq2, HQ.out, Nat.pow_succ, Nat.mul_comm], Or.inr (by rw [Nat.add_sub_cancel, ← HQ.out]; exact h1), by omega, rfl⟩
      · have h2i : ¬ (h : Int) < 10 := by omega
        have hh10 : h = 10 := by omega
        have he := ht_end m (by omega) h (by omega) HL.out (Or.inr hh10)
        rw [← HQ.out, if_neg (by omega)] at he
        have HE := hideIt he
        have h3 : ((q : Int) != (m : Int)) = true := by
          have : ¬ (q : Int) = (m : Int) := by omega
          simp [this]
        have h3b : ¬ (q : Int) = (m : Int) := by omega
        clear he hh10
        go_wp2
        go_ret
        exact ⟨by rw [HE.out]; rfl, rfl⟩
    · have h1i : ¬ (q : Int) < (m : Int) := by omega
      have he := ht_end m (by omega) h (by omega) HL.out (Or.inl (by rw [← HQ.out]; exact h1))
      rw [← HQ.out] at he
      by_cases h3 : q = m
      · rw [if_pos h3] at he
        have HE := hideIt he
        clear he
        subst h3
        go_wp2
        go_ret
        exact ⟨by rw [HE.out]; rfl, rfl⟩
      · rw [if_neg h3] at he
        have HE := hideIt he
        have h3b : ¬ (q : Int) = (m : Int) := by omega
        have h3c : ((q : Int) != (m : Int)) = true := by simp [h3b]
        clear he
        go_wp2
        go_ret
        exact ⟨by rw [HE.out]; rfl, rfl⟩
end Go.Proofs.YtjndabnegmecmaaGreatDoor
/-
  paymasterref15's Up, walked (in a trial seat, ahead of the program).
-/
namespace Go.Proofs.YtjndabnegmecmaaGreatDoor
set_option linter.unusedVariables false
set_option linter.unusedSimpArgs false
set_option maxRecDepth 10000
open Go.RowKit

set_option maxRecDepth 100000 in
set_option maxHeartbeats 4000000 in
theorem rup15_any (n : Int) (A : Option Addr) (c m : Nat) (l : List Nd) (hl : l.length = m + m) (hm : m ≤ 1000) (hx : ∀ x ∈ l, x.of n = true ∧ x.halved) (w : World) (hR : ndS.Row w w.heap.size A l) :
    Calls Tryz.prog 23 #[.int .i64 n, .slice A l.length c] w (fun e w' => ∃ v, e = .returned v ∧ w'.ownsRow w.heap.size 47 3 v m (ndS.flat (pairL n l)) ∧ Below w.heap.size w w') := by
  have hpl := pairL_len n m l hl
  obtain ⟨N, hN⟩ : ∃ N, l.length = N := ⟨_, rfl⟩
  rw [hN] at hl ⊢
  have HN := hideIt hN
  clear hN
  go_enter Tryz.func23, Tryz.ntmps23
  go_wp2
  go_loopg [5, 6] m (fun gk v i wr => ∃ k j : Nat, k ≤ m ∧ m - k ≤ gk ∧ i = .int .i64 j ∧ j = k + k ∧ wr.ownsRow w.heap.size 47 3 v k (ndS.flat ((pairL n l).take k)) ∧ Below w.heap.size w wr)
  case atStart => exact ⟨0, 0, Nat.zero_le _, by omega, rfl, rfl, by rw [List.take_zero]; exact World.ownsRow_nil _ _ _ _, Below.refl _ _⟩
  case round =>
    obtain ⟨k, j, hk, hgk, rfl, hj, hown, hb⟩ := hrel
    have HG := hideIt hgk
    clear hgk
    obtain ⟨j1, hj1⟩ : ∃ j1, j + 1 = j1 := ⟨_, rfl⟩
    obtain ⟨j2, hj2⟩ : ∃ j2, j + 2 = j2 := ⟨_, rfl⟩
    have e1 : IntKind.i64.wrap ((j : Int) + 1) = (j1 : Int) := by rw [IntKind.wrap_i64]; omega
    have e2 : IntKind.i64.wrap ((j : Int) + 2) = (j2 : Int) := by rw [IntKind.wrap_i64]; omega
    by_cases hlt : k < m
    · obtain ⟨a, ha⟩ : ∃ r, l[j]? = some r := ⟨_, List.getElem?_eq_getElem (by rw [HN.out]; omega)⟩
      obtain ⟨b, hb'⟩ : ∃ r, l[j1]? = some r := ⟨_, List.getElem?_eq_getElem (by rw [HN.out]; omega)⟩
      have hp := pairL_at n k l a b (by rw [← hj]; exact ha) (by rw [← hj, hj1]; exact hb')
      have htk : (pairL n l).take (k + 1) = (pairL n l).take k ++ [(joinS n a b).1] := by rw [List.take_add_one, hp]; rfl
      obtain ⟨hao, hah⟩ := hx a (List.mem_of_getElem? ha)
      obtain ⟨hbo, hbh⟩ := hx b (List.mem_of_getElem? hb')
      have cJ := fun u => rjoin14_any n a b (Nat.le_trans (of_size hao) (by decide)) (Nat.le_trans (of_size hbo) (by decide)) hah hbh u
      rw [joinN, hao, hbo, if_pos (by decide)] at cJ
      obtain ⟨ad, rfl, g1, p0, p1, p2⟩ := nd_get (hR.on hb) ha
      obtain ⟨ad', hA', g2, q0, q1, q2⟩ := nd_get (hR.on hb) hb'
      injection hA' with hA'
      subst hA'
      obtain ⟨⟨⟨js, jh, jl⟩, je⟩, hJ⟩ : ∃ V, joinS n a b = V := ⟨_, rfl⟩
      rw [hJ] at cJ htk
      obtain ⟨as_, ah, al⟩ := a
      obtain ⟨bs, bh, bl⟩ := b
      simp only [Nd.val] at cJ p0 p1 p2 q0 q1 q2 htk
      have HTK := hideIt htk
      have HJ2 := hideIt hj
      have HJ3 := hideIt hj2
      have hlti : (j1 : Int) < (N : Int) := by omega
      have hltj : (j : Int) < (N : Int) := by omega
      clear ha hb' hp htk hJ hj hj1 hj2 hao hah hbo hbh hl hpl
      go_upto_region 5 with fail
      go_cut [7, 8] (fun s7 s8 wx => ∃ g, s7 = .pointer (some ⟨g, 0, none⟩) ∧ s8 = .int .i64 je ∧ Box wx g 47 (ndB js jh jl) ∧ Below wr.heap.size wr wx)
      case first =>
        go_region_held3 (fun w' => Below wr.heap.size wr w' ∧ w'.cell? (ad.add (j * 3)) = some (.string as_) ∧ w'.cell? ⟨(ad.add (j * 3)).block, (ad.add (j * 3)).off + 1, none⟩ = some (.int .u64 ah) ∧ w'.cell? ⟨(ad.add (j * 3)).block, (ad.add (j * 3)).off + 2, none⟩ = some (.int .u64 al) ∧
            w'.cell? (ad.add (j1 * 3)) = some (.string bs) ∧ w'.cell? ⟨(ad.add (j1 * 3)).block, (ad.add (j1 * 3)).off + 1, none⟩ = some (.int .u64 bh) ∧ w'.cell? ⟨(ad.add (j1 * 3)).block, (ad.add (j1 * 3)).off + 2, none⟩ = some (.int .u64 bl))
          (exact (fun (hb : Below wr.heap.size wr _) => ⟨hb, (hb.cell (p := ad.add (j * 3)) g1).trans p0, (hb.cell (p := ⟨(ad.add (j * 3)).block, (ad.add (j * 3)).off + 1, none⟩) g1).trans p1, (hb.cell (p := ⟨(ad.add (j * 3)).block, (ad.add (j * 3)).off + 2, none⟩) g1).trans p2,
              (hb.cell (p := ad.add (j1 * 3)) g2).trans q0, (hb.cell (p := ⟨(ad.add (j1 * 3)).block, (ad.add (j1 * 3)).off + 1, none⟩) g2).trans q1, (hb.cell (p := ⟨(ad.add (j1 * 3)).block, (ad.add (j1 * 3)).off + 2, none⟩) g2).trans q2⟩)
            (by repeat (first
              | exact Below.refl _ _
              | exact chain (by repeat (first | exact Below.refl _ _ | apply Below.drew | refine Below.alloc ?_ (by simp) _)) hb3
              | apply Below.drew
              | refine Below.alloc ?_ (by first | exact Nat.le_refl _ | (have := hb3.size; simp at this ⊢; omega)) _
              | refine Below.setCell ?_ (by first | exact Nat.le_refl _ | (have := hb3.size; simp at this ⊢; omega)) _)))
          (first
            | (go_at_call 34; ((with_reducible refine (cJ _).mono ?_); rintro e w3 ⟨rfl, hb3⟩)
               first
                 | (have G3 := ((Box.made wr 47 (ndB ⟨#[]⟩ 0 0)).draw).call hb3
                    obtain ⟨k1, k2, k3, k4, k5, k6, k7⟩ := G3.three)
                 | (have G3 := (Box.made wr.drew 47 (ndB ⟨#[]⟩ 0 0)).call hb3
                    obtain ⟨k1, k2, k3, k4, k5, k6, k7⟩ := G3.three)
                 | skip))
        all_goals go_wp2_with fail
        all_goals go_meet
        · exact ⟨_, rfl, rfl, Box.made _ _ _, by
            repeat (first
              | exact Below.refl _ _
              | exact chain (by repeat (first | exact Below.refl _ _ | apply Below.drew | refine Below.alloc ?_ (by simp) _)) hb3
              | apply Below.drew
              | refine Below.alloc ?_ (by first | exact Nat.le_refl _ | (have := hb3.size; simp at this ⊢; omega)) _)⟩
        · exact ⟨_, rfl, rfl, ((G3.wrote 0 _).wrote 1 _).wrote 2 _, by
            repeat (first
              | exact Below.refl _ _
              | exact chain (by repeat (first | exact Below.refl _ _ | apply Below.drew | refine Below.alloc ?_ (by simp) _)) hb3
              | apply Below.drew
              | refine Below.setCell ?_ (by first | exact Nat.le_refl _ | (have := hb3.size; simp at this ⊢; omega)) _)⟩
      case rest =>
        obtain ⟨g, rfl, rfl, hbx, hbl⟩ := hcut
        have o5 := own_below hown hbl
        obtain ⟨z0, z1, z2, -, -, -, zi⟩ := hbx.three
        rename World => W5
        obtain ⟨v', w6, hrun, o6, b6⟩ := nd_app1 W5 w.heap.size u5 k ((pairL n l).take k) o5 ⟨js, jh, jl⟩ (by omega) (chain hb hbl).size
        clear p0 p1 p2 q0 q1 q2 cJ
        go_wp2_with (first
          | (at_builtin; refine gen_run rfl _ _ _ rfl _ _ rfl rfl _ w6 hrun ?_)
          | fail)
        go_roundg (m - (k + 1))
        case measure => have := HG.out; omega
        case rel => exact ⟨k + 1, j2, by omega, Nat.le_refl _, rfl, by rw [← HJ3.out, HJ2.out]; omega, by rw [HTK.out]; exact o6, (chain hb hbl).trans b6⟩
    · have e : k = m := by omega
      subst e
      have hlti : ¬ ((j1 : Int) < (N : Int)) := by omega
      rw [List.take_of_length_le (by omega)] at hown
      clear hj hj1 hj2 hl hpl
      go_wp2
      exact bodyPost_ret (results_tmp rfl _ _ _) rfl ⟨u5, rfl, hown, hb⟩
end Go.Proofs.YtjndabnegmecmaaGreatDoor
/-
  paymasterref15's Nodes, walked (in a trial seat, ahead of the program).
-/
namespace Go.Proofs.YtjndabnegmecmaaGreatDoor
set_option linter.unusedVariables false
set_option linter.unusedSimpArgs false
set_option maxRecDepth 10000
open Go.RowKit

set_option maxRecDepth 100000 in
set_option maxHeartbeats 4000000 in
theorem rnodes15_any (n : Int) (A : Option Addr) (c : Nat) (l : List Lf) (hm : l.length ≤ 100000) (hx : ∀ x ∈ l, (x.id.size ≤ 1000000 ∧ x.salt.size ≤ 1000000) ∧ Word x.h ∧ Word x.l) (w : World) (hR : lfS.Row w w.heap.size A l) :
    Calls Tryz.prog 19 #[.int .i64 n, .slice A l.length c] w (fun e w' => ∃ v, e = .returned v ∧ w'.ownsRow w.heap.size 47 3 v l.length (ndS.flat (l.map (nodeOf n))) ∧ Below w.heap.size w w') := by
  obtain ⟨N, hN⟩ : ∃ N, l.length = N := ⟨_, rfl⟩
  rw [hN] at hm ⊢
  have HN := hideIt hN
  clear hN
  go_enter Tryz.func19, Tryz.ntmps19
  go_wp2
  go_loopg [5, 6] N (fun gk v i wr => ∃ k : Nat, k ≤ N ∧ N - k ≤ gk ∧ i = .int .i64 k ∧ wr.ownsRow w.heap.size 47 3 v k (ndS.flat ((l.map (nodeOf n)).take k)) ∧ Below w.heap.size w wr)
  case atStart => exact ⟨0, Nat.zero_le _, by omega, rfl, by rw [List.take_zero]; exact World.ownsRow_nil _ _ _ _, Below.refl _ _⟩
  case round =>
    obtain ⟨k, hk, hgk, rfl, hown, hb⟩ := hrel
    have HG := hideIt hgk
    clear hgk
    by_cases hlt : k < N
    · obtain ⟨x, hx0⟩ : ∃ r, l[k]? = some r := ⟨_, List.getElem?_eq_getElem (by rw [HN.out]; omega)⟩
      have htk : (l.map (nodeOf n)).take (k + 1) = (l.map (nodeOf n)).take k ++ [nodeOf n x] := by rw [List.take_add_one, List.getElem?_map, hx0]; rfl
      obtain ⟨⟨h1, h2⟩, h3, h4⟩ := hx x (List.mem_of_getElem? hx0)
      have cN := fun u => rleafNode_any n x h1 h2 h3 h4 u
      obtain ⟨⟨js, jh, jl⟩, hJ⟩ : ∃ V, nodeOf n x = V := ⟨_, rfl⟩
      rw [hJ] at cN htk
      obtain ⟨ad, rfl, g1, p0, p1, p2, p3, p4⟩ := lf_get (hR.on hb) hx0
      obtain ⟨xp, xi, xs, xh, xl⟩ := x
      simp only [Nd.val, Lf.val] at cN p0 p1 p2 p3 p4
      have HTK := hideIt htk
      have hlti : (k : Int) < (N : Int) := by omega
      have happ := fun W v ho hbb => nd_app1 W w.heap.size v k ((l.map (nodeOf n)).take k) ho ⟨js, jh, jl⟩ (by omega) hbb
      clear hx0 htk hJ h1 h2 h3 h4
      go_wp2_with (first
        | (go_at_call 35; refine (cN _).mono ?_; rintro e w5 ⟨rfl, b5⟩; obtain ⟨v', w6, hrun, o6, b6⟩ := happ w5 u5 (own_below hown b5) (chain hb b5).size)
        | (at_builtin; refine gen_run rfl _ _ _ rfl _ _ rfl rfl _ w6 hrun ?_)
        | fail)
      go_roundg (N - (k + 1))
      case measure => have := HG.out; omega
      case rel => exact ⟨k + 1, by omega, Nat.le_refl _, by go_num, by rw [HTK.out]; exact o6, (chain hb b5).trans b6⟩
    · have e : k = N := by omega
      subst e
      have hlti : ¬ ((k : Int) < (k : Int)) := by omega
      rw [List.take_of_length_le (by rw [List.length_map, HN.out]; exact Nat.le_refl _)] at hown
      go_wp2
      exact bodyPost_ret (results_tmp rfl _ _ _) rfl ⟨u5, rfl, hown, hb⟩
end Go.Proofs.YtjndabnegmecmaaGreatDoor
/-
  paymasterref15's New and Same, walked.
-/
namespace Go.Proofs.YtjndabnegmecmaaGreatDoor
set_option linter.unusedVariables false
set_option linter.unusedSimpArgs false
set_option maxRecDepth 10000
open Go.ChangeShapes Go.WideShapes Go.ChangeAt Go.RowKit

/-- The height tells whether there may be so many. -/
theorem ht_may (m : Nat) (hm : m ≤ 300) : (htN m < 0 ↔ mayN m = false) := by
  have : ∀ m : Nat, m < 301 → (decide (htN m < 0) = !mayN m) := by decide +kernel
  have h := this m (by omega)
  constructor
  · intro h1
    rw [decide_eq_true h1] at h
    cases hm : mayN m with
    | false => rfl
    | true => rw [hm] at h; cases h
  · intro h1
    rw [h1] at h
    exact of_decide_eq_true h
theorem ht_pow (k : Nat) (hk : k ≤ 6) : htN (2 ^ k) = (k : Int) := by
  have : ∀ k : Nat, k < 7 → htN (2 ^ k) = (k : Int) := by decide +kernel
  exact this k (by omega)
theorem neq_lf_any (x y : Lf) (u : World) : (binOp .neq 35 x.val y.val).run Tryz.prog u = .ok (.bool (!x.same y)) u := run_neq_lf x y u
instance lfDec15 : DecidableEq Lf := fun x y => if h : x.same y = true then isTrue ((Lf.same_iff x y).1 h) else isFalse (fun e => h ((Lf.same_iff x y).2 e))
end Go.Proofs.YtjndabnegmecmaaGreatDoor
/-
  paymasterref15's New, Level, Root, Node, walked.
-/
namespace Go.Proofs.YtjndabnegmecmaaGreatDoor
set_option linter.unusedVariables false
set_option linter.unusedSimpArgs false
set_option maxRecDepth 10000
open Go.ChangeShapes Go.WideShapes Go.ChangeAt Go.RowKit

/-- The document's tree lies there: a width, and leaves in a row of the call's own. -/
def RTr (W : World) (g gl c : Nat) (w : Int) (l : List Lf) : Prop := Box W g 70 #[.int .i64 w, .slice (some ⟨gl, 0, none⟩) l.length c] ∧ lfS.Blk W 35 gl l
section
variable {W W' : World} {g gl c : Nat} {w : Int} {l : List Lf}
theorem RTr.call (h : RTr W g gl c w l) (hb : Below W.heap.size W W') : RTr W' g gl c w l := ⟨h.1.call hb, h.2.call hb⟩
theorem RTr.past (h : RTr W g gl c w l) (o : Obj) : RTr (W.alloc o) g gl c w l := h.call (chainA (Below.refl _ _) _)
theorem RTr.drew (h : RTr W g gl c w l) : RTr W.drew g gl c w l := h.call (Below.refl _ _).drew
/-- Whatever turns that isn't it. -/
theorem RTr.off {F : Nat → Prop} (h : RTr W g gl c w l) (ho : Off F W W') (h1 : ¬ F g) (h2 : ¬ F gl) : RTr W' g gl c w l := ⟨ho.box h.1 h1, h.2.off ho h2⟩
theorem RTr.cells (h : RTr W g gl c w l) : W.cell? ⟨g, 0, none⟩ = some (.int .i64 w) ∧ W.cell? ⟨g, 1, none⟩ = some (.slice (some ⟨gl, 0, none⟩) l.length c) ∧ g < W.heap.size := ⟨h.1.read 0, h.1.read 1, h.1.inside⟩
end
theorem own_cap {W : World} {b k n n' g c : Nat} {T : TypeId} {xs : List Value} (h : W.ownsRow b T k (.slice (some ⟨g, 0, none⟩) n' c) n xs) : c ≤ 9223372036854775807 := by
  rcases h.2 with ⟨h1, h2⟩ | ⟨g', cap, cur, hv, hg, hh, hc, hm, -⟩
  · cases h1
  · injection hv with _ _ h3
    subst h3
    unfold maxLen at hm
    omega
theorem rcopy15 (w : World) (A : Option Addr) (c : Nat) (xs : List Lf) (hne : xs ≠ []) (hm : xs.length ≤ 1000000) (hR : lfS.Row w w.heap.size A xs) :
    ∃ g c' w', (∀ ty, (Builtin.append_ #[22, 22] ty #[.slice (some ⟨w.heap.size, 0, none⟩) 0 0, .slice A xs.length c]).run Tryz.prog (w.alloc (.cells #[] 35)) = .ok (.slice (some ⟨g, 0, none⟩) xs.length c') w') ∧
      lfS.Blk w' 35 g xs ∧ w.heap.size ≤ g ∧ Below w.heap.size w w' ∧ xs.length ≤ c' := by
  have L0 : Below w.heap.size w (w.alloc (.cells #[] 35)) := chainA (Below.refl _ _) _
  cases A with
  | none => exact absurd hR.none_ hne
  | some ad =>
    have own0 : (w.alloc (.cells #[] 35)).ownsRow w.heap.size 35 5 (.slice (some ⟨w.heap.size, 0, none⟩) 0 0) 0 (lfS.flat []) :=
      ⟨rfl, .inr ⟨w.heap.size, 0, #[], rfl, Nat.le_refl _, Box.made w 35 #[], Nat.le_refl _, Nat.zero_le _, rfl, rfl⟩⟩
    obtain ⟨v', w', hr, h2, h3, -⟩ := lfE.app (w.alloc (.cells #[] 35)) w.heap.size _ 0 [] own0 ad xs.length c xs rfl ((hR.call L0).cells) (by omega) (by simp) (N := xs.length) (Nat.zero_add _)
    rw [List.nil_append] at h2
    obtain ⟨g, c2, rfl, hg, hc, hB⟩ := Sh.Blk.of_own (S := lfS) h2 hne
    exact ⟨g, c2, w', hr, hB, hg, L0.grown h3 (by simp) (fun j hj => by injection hj with hj; subst hj; exact Nat.le_refl _), hc⟩
set_option maxRecDepth 100000 in
set_option maxHeartbeats 8000000 in
theorem rnew15_wrong (n : Int) (A : Option Addr) (c : Nat) (l : List Lf) (hl : l.length ≤ 300) (hs : ∀ x ∈ l, x.id.size ≤ 1000000 ∧ x.salt.size ≤ 1000000) (E : Int) (hE : wrongT n l = E) (h0 : E ≠ 0) (w : World) (hR : lfS.Row w w.heap.size A l) :
    Calls Tryz.prog 6 #[.int .i64 n, .slice A l.length c] w (Tells (.tuple #[.pointer none, .int .i64 E]) w.heap.size w) := by
  have cH := fun u => rheight15_any l.length hl u
  have hht := ht_may l.length hl
  have eV : wrongT n l = if mayW n = true then (if mayN l.length = true then (if l.all Lf.may = true then 0 else 130) else 120) else 70 := rfl
  rw [hE] at eV
  obtain ⟨N, hN⟩ : ∃ N, l.length = N := ⟨_, rfl⟩
  rw [hN] at cH hht eV hl ⊢
  have HN := hideIt hN
  obtain ⟨H, hH⟩ : ∃ H, htN N = H := ⟨_, rfl⟩
  rw [hH] at cH hht
  clear hN hE hH
  by_cases h1 : n < 1
  · have hw : mayW n = false := decide_eq_false (by omega)
    rw [hw, if_neg (by decide)] at eV
    subst eV
    clear hht
    go_enter Tryz.func6, Tryz.ntmps6
    go_wp2
    refine bodyPost_ret (results_tmp2 rfl _ _ _) rfl ?_
    exact ⟨rfl, Below.refl _ _⟩
  · by_cases h2 : 32 < n
    · have hw : mayW n = false := decide_eq_false (by omega)
      rw [hw, if_neg (by decide)] at eV
      subst eV
      clear hht
      go_enter Tryz.func6, Tryz.ntmps6
      go_wp2
      refine bodyPost_ret (results_tmp2 rfl _ _ _) rfl ?_
      exact ⟨rfl, Below.refl _ _⟩
    · have hw : mayW n = true := decide_eq_true (by omega)
      rw [hw, if_pos rfl] at eV
      have h1a : (1 : Int) ≤ n := by omega
      cases hm : mayN N with
      | false =>
        have hneg : H < 0 := hht.2 hm
        rw [hm, if_neg (by decide)] at eV
        subst eV
        clear hht hm hw
        go_enter Tryz.func6, Tryz.ntmps6
        go_wp2_with (first | (go_at_call 16; refine (cH _).mono ?_; rintro e w1 ⟨rfl, rfl⟩) | fail)
        refine bodyPost_ret (results_tmp2 rfl _ _ _) rfl ?_
        exact ⟨rfl, Below.refl _ _⟩
      | true =>
        have hneg : ¬ H < 0 := fun h => by have := hht.1 h; rw [hm] at this; cases this
        rw [hm, if_pos rfl] at eV
        have hall : l.all Lf.may = false := by
          cases ha : l.all Lf.may with
          | false => rfl
          | true => rw [ha, if_pos rfl] at eV; exact absurd eV h0
        rw [hall, if_neg (by decide)] at eV
        subst eV
        have HALL := hideIt hall
        clear hht hm hw hall
        go_enter Tryz.func6, Tryz.ntmps6
        go_wp2_with (first | (go_at_call 16; refine (cH _).mono ?_; rintro e w1 ⟨rfl, rfl⟩) | fail)
        go_loopg [6] N (fun gk i wr => ∃ k : Nat, k ≤ N ∧ N - k ≤ gk ∧ i = .int .i64 k ∧ (∀ j x, j < k → l[j]? = some x → x.may = true) ∧ Below w.heap.size w wr)
        case atStart => exact ⟨0, Nat.zero_le _, by omega, rfl, fun j x hj => absurd hj (Nat.not_lt_zero _), Below.refl _ _⟩
        case round =>
          obtain ⟨k, hk, hgk, rfl, hall, hb3⟩ := hrel
          have HG := hideIt hgk
          have HA := hideIt hall
          clear hgk hall
          by_cases hlt : k < N
          · obtain ⟨x, hx⟩ : ∃ x, l[k]? = some x := ⟨_, List.getElem?_eq_getElem (by rw [HN.out]; exact hlt)⟩
            have hlti : (k : Int) < (N : Int) := by omega
            obtain ⟨hs1, hs2⟩ := hs x (List.mem_of_getElem? hx)
            obtain ⟨t, ht⟩ : ∃ t, x.may = t := ⟨_, rfl⟩
            have cM := fun u => rmayLeaf_any x hs1 hs2 u
            rw [ht] at cM
            obtain ⟨ad, rfl, g1, p0, p1, p2, p3, p4⟩ := lf_get (hR.on hb3) hx
            have HX := hideIt hx
            have HT := hideIt ht
            obtain ⟨xp, xi, xs, xh, xl⟩ := x
            simp only [Lf.val] at cM p0 p1 p2 p3 p4
            clear hx ht hs1 hs2
            cases t with
            | true =>
              go_wp2_with (first | (go_at_call 17; refine (cM _).mono ?_; rintro e w2 ⟨rfl, b2⟩) | fail)
              go_roundg (N - (k + 1))
              case measure => have := HG.out; omega
              case rel => exact ⟨k + 1, by omega, Nat.le_refl _, by go_num, fun j x hj hx => by
                  by_cases e : j = k
                  · subst e
                    rw [HX.out] at hx
                    injection hx with hx
                    rw [← hx]
                    exact HT.out
                  · exact HA.out j x (by omega) hx, chain hb3 b2⟩
            | false =>
              go_wp2_with (first | (go_at_call 17; refine (cM _).mono ?_; rintro e w2 ⟨rfl, b2⟩) | fail)
              refine bodyPost_ret (results_tmp2 rfl _ _ _) rfl ?_
              exact ⟨rfl, chain hb3 b2⟩
          · have e : k = N := by omega
            exfalso
            have : l.all Lf.may = true := List.all_eq_true.2 fun x hx => by
              obtain ⟨j, hj⟩ := List.getElem?_of_mem hx
              exact HA.out j x (by have := (List.getElem?_eq_some_iff.1 hj).1; rw [HN.out] at this; omega) hj
            rw [HALL.out] at this
            cases this
set_option maxRecDepth 100000 in
set_option maxHeartbeats 8000000 in
theorem rnew15_may (n : Int) (A : Option Addr) (c : Nat) (l : List Lf) (k : Nat) (hk : k ≤ 6) (hlen : l.length = 2 ^ k) (hmw : mayW n = true) (hall : ∀ x ∈ l, x.may = true ∧ Word x.h ∧ Word x.l) (w : World) (hR : lfS.Row w w.heap.size A l) :
    Calls Tryz.prog 6 #[.int .i64 n, .slice A l.length c] w (fun e w' => Below w.heap.size w w' ∧
      ((room (sumN (l.map (nodeOf n))) = true ∧ ∃ g gl d, e = .returned (.tuple #[.pointer (some ⟨g, 0, none⟩), .int .i64 0]) ∧ RTr w' g gl d n l ∧ w.heap.size ≤ g ∧ w.heap.size ≤ gl) ∨
       (room (sumN (l.map (nodeOf n))) = false ∧ e = .returned (.tuple #[.pointer none, .int .i64 10])))) := by
  have hl64 : l.length ≤ 64 := by rw [hlen]; exact Nat.le_trans (Nat.pow_le_pow_right (n := 2) (by decide) hk) (by decide)
  have hl1 : 1 ≤ l.length := by rw [hlen]; exact Nat.two_pow_pos k
  have hne : l ≠ [] := fun e => by rw [e] at hl1; simp at hl1
  have hsz : ∀ x ∈ l, x.id.size ≤ 96 ∧ x.salt.size ≤ 32 := fun x hx => mayT_sizes (hall x hx).1
  have cH := fun u => rheight15_any l.length (by omega) u
  rw [hlen, ht_pow k hk, ← hlen] at cH
  have cNs := fun u hu => rnodes15_any n A c l (by omega) (fun x hx => ⟨⟨by have := hsz x hx; omega, by have := hsz x hx; omega⟩, (hall x hx).2⟩) u hu
  obtain ⟨hhv, hof⟩ := nodes_fine hmw hall
  have hnl : (l.map (nodeOf n)).length = l.length := List.length_map _
  have hcopy := fun (u : World) hR => rcopy15 u A c l hne (by omega) hR
  obtain ⟨ns, hns⟩ : ∃ ns, l.map (nodeOf n) = ns := ⟨_, rfl⟩
  rw [hns] at cNs hhv hof hnl ⊢
  have hfs := fold_sums hmw k ns (by rw [hnl, hlen]) hhv hof
  have hfn : foldN n ns = foldS n k ns := foldN_pow (by rw [allW, hmw, Bool.true_and]; exact List.all_eq_true.2 hof) (by rw [hnl, hlen]) (by omega)
  have cF := fun B d hd hd2 u hu => rfold14_any n B d ns (by rw [hnl]; omega) hd hd2 (fun x hx => ⟨hhv x hx, Nat.le_trans (of_size (hof x hx)) (by decide)⟩) u hu
  rw [hfn] at cF
  obtain ⟨R, hRm⟩ : ∃ R, room (sumN ns) = R := ⟨_, rfl⟩
  rw [hRm] at hfs ⊢
  have hF2 : (foldS n k ns).2 = if R = true then 0 else 10 := by
    cases R with
    | true => rw [if_pos rfl]; exact (hfs.1 rfl).1
    | false => rw [if_neg (by decide), hfs.2 rfl]
  obtain ⟨⟨⟨fs, fh, fl⟩, fe⟩, hFF⟩ : ∃ V, foldS n k ns = V := ⟨_, rfl⟩
  rw [hFF] at cF hF2
  simp only [Nd.val] at cF hF2
  rw [hnl] at cF
  obtain ⟨N, hN⟩ : ∃ N, l.length = N := ⟨_, rfl⟩
  rw [hN] at cH cNs cF hcopy hl64 hl1 ⊢
  have HN := hideIt hN
  have HNL := hideIt (hnl.trans hN)
  have h1 : ¬ n < 1 := by have := of_decide_eq_true hmw; omega
  have h1a : (1 : Int) ≤ n := by omega
  have h2 : ¬ (32 : Int) < n := by have := of_decide_eq_true hmw; omega
  have hneg : ¬ (k : Int) < 0 := by omega
  clear hns hN hnl hlen hfs hfn hRm hFF hof hhv hne
  go_enter Tryz.func6, Tryz.ntmps6
  go_wp2_with (first | (go_at_call 16; refine (cH _).mono ?_; rintro e w1 ⟨rfl, rfl⟩) | fail)
  go_loopg [6] N (fun gk i wr => ∃ k : Nat, k ≤ N ∧ N - k ≤ gk ∧ i = .int .i64 k ∧ Below w.heap.size w wr)
  case atStart => exact ⟨0, Nat.zero_le _, by omega, rfl, Below.refl _ _⟩
  case round =>
    obtain ⟨m, hm, hgk, rfl, hb3⟩ := hrel
    have HG := hideIt hgk
    clear hgk
    by_cases hlt : m < N
    · obtain ⟨x, hx⟩ : ∃ x, l[m]? = some x := ⟨_, List.getElem?_eq_getElem (by rw [HN.out]; exact hlt)⟩
      have hlti : (m : Int) < (N : Int) := by omega
      obtain ⟨hs1, hs2⟩ := hsz x (List.mem_of_getElem? hx)
      have cM := fun u => rmayLeaf_any x (by omega) (by omega) u
      rw [(hall x (List.mem_of_getElem? hx)).1] at cM
      obtain ⟨ad, rfl, g1, p0, p1, p2, p3, p4⟩ := lf_get (hR.on hb3) hx
      obtain ⟨xp, xi, xs, xh, xl⟩ := x
      simp only [Lf.val] at cM p0 p1 p2 p3 p4
      clear hx hs1 hs2
      go_wp2_with (first | (go_at_call 17; refine (cM _).mono ?_; rintro e w2 ⟨rfl, b2⟩) | fail)
      go_roundg (N - (m + 1))
      case measure => have := HG.out; omega
      case rel => exact ⟨m + 1, by omega, Nat.le_refl _, by go_num, chain hb3 b2⟩
    · have e : m = N := by omega
      subst e
      have hlti : ¬ ((m : Int) < (m : Int)) := by omega
      have J0 := (Has.start w).call hb3
      go_upto_region 11 with (first
        | (go_at_call 19; refine (cNs _ (hR.on J0.below)).mono ?_; rintro e w4 ⟨v, rfl, o4, b4⟩; have J1 := J0.call b4; obtain ⟨gw, cw, rfl, hgw, hcw, Bw⟩ := Sh.Blk.of_own (S := ndS) (l := ns) (by rw [HNL.out]; exact o4) (fun e => by have := HNL.out; rw [e] at this; simp at this; omega); rw [HNL.out] at hcw; rw [HNL.out]; have hcm := own_cap o4)
        | (go_at_call 18; refine (cF (some ⟨gw, 0, none⟩) cw hcw hcm _ Bw.row).mono ?_; rintro e w5 ⟨rfl, b5⟩; have J2 := (J1.call b5).past (.cells (ndB fs fh fl) 47))
        | fail)
      change Code.wp _ _ _ _ (w5.alloc (.cells (ndB fs fh fl) 47))
      generalize w5.alloc (.cells (ndB fs fh fl) 47) = W5 at *
      clear cF cNs cH Bw J1 J0 o4 b4 b5
      cases R with
      | true =>
        rw [if_pos rfl] at hF2
        subst hF2
        obtain ⟨gl, c', w7, hrun, B7, hgl, b7, hc7⟩ := hcopy W5 (hR.on J2.below)
        go_wp2_with (first
          | (at_builtin; refine gen_run rfl _ _ _ rfl _ _ rfl rfl _ w7 hrun ?_)
          | fail)
        refine bodyPost_ret (results_tmp2 rfl _ _ _) rfl ?_
        have hb8 := chainA (Below.refl w7.heap.size w7) (.cells #[.int .i64 n, .slice (some ⟨gl, 0, none⟩) m c'] 70)
        have e8 := chain J2.below b7
        exact ⟨chainA e8 _, w7.heap.size, rfl, gl, ⟨c', by rw [HN.out]; exact Box.made _ _ _, B7.call hb8⟩, e8.size, Nat.le_trans J2.size hgl⟩
      | false =>
        rw [if_neg (by decide)] at hF2
        subst hF2
        clear hcopy
        go_wp2
        refine bodyPost_ret (results_tmp2 rfl _ _ _) rfl ?_
        exact ⟨J2.below, rfl⟩
end Go.Proofs.YtjndabnegmecmaaGreatDoor
/-
  paymasterref15's New, whatever it tells; its Set, walked.
-/
namespace Go.Proofs.YtjndabnegmecmaaGreatDoor
set_option linter.unusedVariables false
set_option linter.unusedSimpArgs false
set_option maxRecDepth 10000
open Go.ChangeShapes Go.WideShapes Go.ChangeAt Go.RowKit

section
variable (n : Int) (A : Option Addr) (c : Nat) (l : List Lf) (w : World)
theorem rnew15_fair {k : Nat} (hF : FairT n l k) (hk : k ≤ 6) (hR : lfS.Row w w.heap.size A l) :
    Calls Tryz.prog 6 #[.int .i64 n, .slice A l.length c] w (fun e w' => Below w.heap.size w w' ∧ ∃ g gl d, e = .returned (.tuple #[.pointer (some ⟨g, 0, none⟩), .int .i64 0]) ∧ RTr w' g gl d n l ∧ w.heap.size ≤ g ∧ w.heap.size ≤ gl) :=
  (rnew15_may n A c l k hk hF.len hF.may hF.all w hR).mono fun e w' h => by
    obtain ⟨hb, ⟨-, h⟩ | ⟨h, -⟩⟩ := h
    · exact ⟨hb, h⟩
    · rw [hF.room] at h; cases h
theorem rnew15_err (hl : l.length ≤ 100) (hs : ∀ x ∈ l, x.id.size ≤ 1000000 ∧ x.salt.size ≤ 1000000) (hw : ∀ x ∈ l, Word x.h ∧ Word x.l) (hE : newE n l ≠ 0) (hR : lfS.Row w w.heap.size A l) :
    Calls Tryz.prog 6 #[.int .i64 n, .slice A l.length c] w (Tells (.tuple #[.pointer none, .int .i64 (newE n l)]) w.heap.size w) := by
  by_cases h0 : wrongT n l = 0
  · obtain ⟨h1, h2, h3⟩ := wrongT_zero h0
    obtain ⟨h4, h5⟩ := mayN_log h2
    have hk6 : Nat.log2 l.length ≤ 6 := by
      by_cases hh : Nat.log2 l.length ≤ 6
      · exact hh
      · have : 2 ^ 7 ≤ 2 ^ Nat.log2 l.length := Nat.pow_le_pow_right (by decide) (by omega)
        omega
    refine (rnew15_may n A c l (Nat.log2 l.length) hk6 h4 h1 (fun x hx => ⟨h3 x hx, hw x hx⟩) w hR).mono fun e w' h => ?_
    obtain ⟨hb, ⟨hr, -⟩ | ⟨hr, h⟩⟩ := h
    · rw [newE, if_pos h0, if_pos hr] at hE; exact absurd rfl hE
    · rw [newE, if_pos h0, if_neg (by rw [hr]; decide)]; exact ⟨h, hb⟩
  · have e : newE n l = wrongT n l := by rw [newE, if_neg h0]
    rw [e]
    exact rnew15_wrong n A c l (by omega) hs _ rfl h0 w hR
end
end Go.Proofs.YtjndabnegmecmaaGreatDoor
