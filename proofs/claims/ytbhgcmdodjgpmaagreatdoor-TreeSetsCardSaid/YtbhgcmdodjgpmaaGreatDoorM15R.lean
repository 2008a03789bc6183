/- Several of my texts, laid as one. -/
import Derived.Test.YtbhgcmdodjgpmaaGreatDoorRows
import Derived.Test.YtbhgcmdodjgpmaaGreatDoorW0Words
import Derived.Test.YtbhgcmdodjgpmaaGreatDoorM13Nod
import Derived.Test.YtbhgcmdodjgpmaaGreatDoorM14Ref
import Derived.Test.YtbhgcmdodjgpmaaGreatDoorM15Pln
import Derived.Deep.AppendLies
import Derived.Deep.RegionHeld3
import Derived.Test.YtbhgcmdodjgpmaaGreatDoorT15Leaf
import Derived.Test.YtbhgcmdodjgpmaaGreatDoorM7Rn
import Derived.Test.YtbhgcmdodjgpmaaGreatDoorM15Law
/-
  paymasterref15's Height, walked (in a trial seat, ahead of the program).
-/
namespace Go.Proofs.YtbhgcmdodjgpmaaGreatDoor
set_option linter.unusedVariables false
set_option linter.unusedSimpArgs false
set_option maxRecDepth 10000
open Go.RowKit

/-- The height of so many leaves; below 0: there is none. -/
def htN (m : Nat) : Int := if m ≠ 0 ∧ m = 2 ^ Nat.log2 m ∧ Nat.log2 m ≤ 10 then (Nat.log2 m : Int) else -1
theorem ht_end : ∀ m : Nat, m < 301 → ∀ h : Nat, h < 11 → (h = 0 ∨ 2 ^ (h - 1) < m) → (¬ 2 ^ h < m ∨ h = 10) → htN m = if 2 ^ h = m then (h : Int) else -1 := by decide +kernel
set_option maxHeartbeats 2000000 in
theorem rheight15_any (m : Nat) (hm : m ≤ 300) (w : World) : Calls Tryz.prog 12 #[.int .i64 m] w (Plain (.int .i64 (htN m)) w) := by
  go_enter Tryz.func12, Tryz.ntmps12
  go_wp2
  go_loopg [3, 4] 10 (fun gk a b wr => ∃ h q : Nat, h ≤ 10 ∧ 10 - h ≤ gk ∧ a = .int .i64 h ∧ b = .int .i64 q ∧ q = 2 ^ h ∧ (h = 0 ∨ 2 ^ (h - 1) < m) ∧ q ≤ 1024 ∧ wr = w)
  case atStart => exact ⟨0, 1, by omega, by omega, rfl, rfl, rfl, Or.inl rfl, by omega, rfl⟩
  case round =>
    obtain ⟨h, q, hh, hgk, rfl, rfl, hq, hlow, hqb, rfl⟩ := hrel
    have HG := hideIt hgk
    have HQ := hideIt hq
    have HL := hideIt hlow
    clear hgk hq hlow
    by_cases h1 : q < m
    · have h1i : (q : Int) < (m : Int) := by omega
      by_cases h2 : h < 10
      · have h2i : (h : Int) < 10 := by omega
        have e1 : IntKind.i64.wrap (2 * (q : Int)) = ((2 * q : Nat) : Int) := by rw [IntKind.wrap_i64]; omega
        obtain ⟨q2, hq2⟩ : ∃ q2, 2 * q = q2 := ⟨_, rfl⟩
        rw [hq2] at e1
        go_wp2
        go_roundg (10 - (h + 1))
        case measure => have := HG.out; omega
        case rel => exact ⟨h + 1, q2, by omega, Nat.le_refl _, by go_num, rfl, by rw [← hq2, HQ.out, Nat.pow_succ, Nat.mul_comm], Or.inr (by rw [Nat.add_sub_cancel, ← HQ.out]; exact h1), by omega, rfl⟩
      · have h2i : ¬ (h : Int) < 10 := by omega
        have hh10 : h = 10 := by omega
        have he := ht_end m (by omega) h (by omega) HL.out (Or.inr hh10)
        rw [← HQ.out, if_neg (by omega)] at he
        have HE := hideIt he
        have h3 : ((q : Int) != (m : Int)) = true := by
          have : ¬ (q : Int) = (m : Int) := by omega
          simp [this]
        have h3b : ¬ (q : Int) = (m : Int) := by omega
        clear he hh10
        go_wp2
        go_ret
        exact ⟨by rw [HE.out]; rfl, rfl⟩
    · have h1i : ¬ (q : Int) < (m : Int) := by omega
      have he := ht_end m (by omega) h (by omega) HL.out (Or.inl (by rw [← HQ.out]; exact h1))
      rw [← HQ.out] at he
      by_cases h3 : q = m
      · rw [if_pos h3] at he
        have HE := hideIt he
        clear he
        subst h3
        go_wp2
        go_ret
        exact ⟨by rw [HE.out]; rfl, rfl⟩
      · rw [if_neg h3] at he
        have HE := hideIt he
        have h3b : ¬ (q : Int) = (m : Int) := by omega
        have h3c : ((q : Int) != (m : Int)) = true := by simp [h3b]
        clear he
        go_wp2
        go_ret
        exact ⟨by rw [HE.out]; rfl, rfl⟩
end Go.Proofs.YtbhgcmdodjgpmaaGreatDoor
/-
  paymasterref15's Up, walked (in a trial seat, ahead of the program).
-/
namespace Go.Proofs.YtbhgcmdodjgpmaaGreatDoor
set_option linter.unusedVariables false
set_option linter.unusedSimpArgs false
set_option maxRecDepth 10000
open Go.RowKit

set_option maxRecDepth 100000 in
set_option maxHeartbeats 4000000 in
theorem rup15_any (n : Int) (A : Option Addr) (c m : Nat) (l : List Nd) (hl : l.length = m + m) (hm : m ≤ 1000) (hx : ∀ x ∈ l, x.of n = true ∧ x.halved) (w : World) (hR : ndS.Row w w.heap.size A l) :
    Calls Tryz.prog 31 #[.int .i64 n, .slice A l.length c] w (fun e w' => ∃ v, e = .returned v ∧ w'.ownsRow w.heap.size 46 3 v m (ndS.flat (pairL n l)) ∧ Below w.heap.size w w') := by
  have hpl := pairL_len n m l hl
  obtain ⟨N, hN⟩ : ∃ N, l.length = N := ⟨_, rfl⟩
  rw [hN] at hl ⊢
  have HN := hideIt hN
  clear hN
  go_enter Tryz.func31, Tryz.ntmps31
  go_wp2
  go_loopg [5, 6] m (fun gk v i wr => ∃ k j : Nat, k ≤ m ∧ m - k ≤ gk ∧ i = .int .i64 j ∧ j = k + k ∧ wr.ownsRow w.heap.size 46 3 v k (ndS.flat ((pairL n l).take k)) ∧ Below w.heap.size w wr)
  case atStart => exact ⟨0, 0, Nat.zero_le _, by omega, rfl, rfl, by rw [List.take_zero]; exact World.ownsRow_nil _ _ _ _, Below.refl _ _⟩
  case round =>
    obtain ⟨k, j, hk, hgk, rfl, hj, hown, hb⟩ := hrel
    have HG := hideIt hgk
    clear hgk
    obtain ⟨j1, hj1⟩ : ∃ j1, j + 1 = j1 := ⟨_, rfl⟩
    obtain ⟨j2, hj2⟩ : ∃ j2, j + 2 = j2 := ⟨_, rfl⟩
    have e1 : IntKind.i64.wrap ((j : Int) + 1) = (j1 : Int) := by rw [IntKind.wrap_i64]; omega
    have e2 : IntKind.i64.wrap ((j : Int) + 2) = (j2 : Int) := by rw [IntKind.wrap_i64]; omega
    by_cases hlt : k < m
    · obtain ⟨a, ha⟩ : ∃ r, l[j]? = some r := ⟨_, List.getElem?_eq_getElem (by rw [HN.out]; omega)⟩
      obtain ⟨b, hb'⟩ : ∃ r, l[j1]? = some r := ⟨_, List.getElem?_eq_getElem (by rw [HN.out]; omega)⟩
      have hp := pairL_at n k l a b (by rw [← hj]; exact ha) (by rw [← hj, hj1]; exact hb')
      have htk : (pairL n l).take (k + 1) = (pairL n l).take k ++ [(joinS n a b).1] := by rw [List.take_add_one, hp]; rfl
      obtain ⟨hao, hah⟩ := hx a (List.mem_of_getElem? ha)
      obtain ⟨hbo, hbh⟩ := hx b (List.mem_of_getElem? hb')
      have cJ := fun u => rjoin14_any n a b (Nat.le_trans (of_size hao) (by decide)) (Nat.le_trans (of_size hbo) (by decide)) hah hbh u
      rw [joinN, hao, hbo, if_pos (by decide)] at cJ
      obtain ⟨ad, rfl, g1, p0, p1, p2⟩ := nd_get (hR.on hb) ha
      obtain ⟨ad', hA', g2, q0, q1, q2⟩ := nd_get (hR.on hb) hb'
      injection hA' with hA'
      subst hA'
      obtain ⟨⟨⟨js, jh, jl⟩, je⟩, hJ⟩ : ∃ V, joinS n a b = V := ⟨_, rfl⟩
      rw [hJ] at cJ htk
      obtain ⟨as_, ah, al⟩ := a
      obtain ⟨bs, bh, bl⟩ := b
      simp only [Nd.val] at cJ p0 p1 p2 q0 q1 q2 htk
      have HTK := hideIt htk
      have HJ2 := hideIt hj
      have HJ3 := hideIt hj2
      have hlti : (j1 : Int) < (N : Int) := by omega
      have hltj : (j : Int) < (N : Int) := by omega
      clear ha hb' hp htk hJ hj hj1 hj2 hao hah hbo hbh hl hpl
      go_upto_region 5 with fail
      go_cut [7, 8] (fun s7 s8 wx => ∃ g, s7 = .pointer (some ⟨g, 0, none⟩) ∧ s8 = .int .i64 je ∧ Box wx g 46 (ndB js jh jl) ∧ Below wr.heap.size wr wx)
      case first =>
        go_region_held3 (fun w' => Below wr.heap.size wr w' ∧ w'.cell? (ad.add (j * 3)) = some (.string as_) ∧ w'.cell? ⟨(ad.add (j * 3)).block, (ad.add (j * 3)).off + 1, none⟩ = some (.int .u64 ah) ∧ w'.cell? ⟨(ad.add (j * 3)).block, (ad.add (j * 3)).off + 2, none⟩ = some (.int .u64 al) ∧
            w'.cell? (ad.add (j1 * 3)) = some (.string bs) ∧ w'.cell? ⟨(ad.add (j1 * 3)).block, (ad.add (j1 * 3)).off + 1, none⟩ = some (.int .u64 bh) ∧ w'.cell? ⟨(ad.add (j1 * 3)).block, (ad.add (j1 * 3)).off + 2, none⟩ = some (.int .u64 bl))
          (exact (fun (hb : Below wr.heap.size wr _) => ⟨hb, (hb.cell (p := ad.add (j * 3)) g1).trans p0, (hb.cell (p := ⟨(ad.add (j * 3)).block, (ad.add (j * 3)).off + 1, none⟩) g1).trans p1, (hb.cell (p := ⟨(ad.add (j * 3)).block, (ad.add (j * 3)).off + 2, none⟩) g1).trans p2,
              (hb.cell (p := ad.add (j1 * 3)) g2).trans q0, (hb.cell (p := ⟨(ad.add (j1 * 3)).block, (ad.add (j1 * 3)).off + 1, none⟩) g2).trans q1, (hb.cell (p := ⟨(ad.add (j1 * 3)).block, (ad.add (j1 * 3)).off + 2, none⟩) g2).trans q2⟩)
            (by repeat (first
              | exact Below.refl _ _
              | exact chain (by repeat (first | exact Below.refl _ _ | apply Below.drew | refine Below.alloc ?_ (by simp) _)) hb3
              | apply Below.drew
              | refine Below.alloc ?_ (by first | exact Nat.le_refl _ | (have := hb3.size; simp at this ⊢; omega)) _
              | refine Below.setCell ?_ (by first | exact Nat.le_refl _ | (have := hb3.size; simp at this ⊢; omega)) _)))
          (first
            | (go_at_call 47; ((with_reducible refine (cJ _).mono ?_); rintro e w3 ⟨rfl, hb3⟩)
               first
                 | (have G3 := ((Box.made wr 46 (ndB ⟨#[]⟩ 0 0)).draw).call hb3
                    obtain ⟨k1, k2, k3, k4, k5, k6, k7⟩ := G3.three)
                 | (have G3 := (Box.made wr.drew 46 (ndB ⟨#[]⟩ 0 0)).call hb3
                    obtain ⟨k1, k2, k3, k4, k5, k6, k7⟩ := G3.three)
                 | skip))
        all_goals go_wp2_with fail
        all_goals go_meet
        · exact ⟨_, rfl, rfl, Box.made _ _ _, by
            repeat (first
              | exact Below.refl _ _
              | exact chain (by repeat (first | exact Below.refl _ _ | apply Below.drew | refine Below.alloc ?_ (by simp) _)) hb3
              | apply Below.drew
              | refine Below.alloc ?_ (by first | exact Nat.le_refl _ | (have := hb3.size; simp at this ⊢; omega)) _)⟩
        · exact ⟨_, rfl, rfl, ((G3.wrote 0 _).wrote 1 _).wrote 2 _, by
            repeat (first
              | exact Below.refl _ _
              | exact chain (by repeat (first | exact Below.refl _ _ | apply Below.drew | refine Below.alloc ?_ (by simp) _)) hb3
              | apply Below.drew
              | refine Below.setCell ?_ (by first | exact Nat.le_refl _ | (have := hb3.size; simp at this ⊢; omega)) _)⟩
      case rest =>
        obtain ⟨g, rfl, rfl, hbx, hbl⟩ := hcut
        have o5 := own_below hown hbl
        obtain ⟨z0, z1, z2, -, -, -, zi⟩ := hbx.three
        rename World => W5
        obtain ⟨v', w6, hrun, o6, b6⟩ := nd_app1 W5 w.heap.size u5 k ((pairL n l).take k) o5 ⟨js, jh, jl⟩ (by omega) (chain hb hbl).size
        clear p0 p1 p2 q0 q1 q2 cJ
        go_wp2_with (first
          | (at_builtin; refine gen_run rfl _ _ _ rfl _ _ rfl rfl _ w6 hrun ?_)
          | fail)
        go_roundg (m - (k + 1))
        case measure => have := HG.out; omega
        case rel => exact ⟨k + 1, j2, by omega, Nat.le_refl _, rfl, by rw [← HJ3.out, HJ2.out]; omega, by rw [HTK.out]; exact o6, (chain hb hbl).trans b6⟩
    · have e : k = m := by omega
      subst e
      have hlti : ¬ ((j1 : Int) < (N : Int)) := by omega
      rw [List.take_of_length_le (by omega)] at hown
      clear hj hj1 hj2 hl hpl
      go_wp2
      exact bodyPost_ret (results_tmp rfl _ _ _) rfl ⟨u5, rfl, hown, hb⟩
end Go.Proofs.YtbhgcmdodjgpmaaGreatDoor
/-
  paymasterref15's Nodes, walked (in a trial seat, ahead of the program).
-/
namespace Go.Proofs.YtbhgcmdodjgpmaaGreatDoor
set_option linter.unusedVariables false
set_option linter.unusedSimpArgs false
set_option maxRecDepth 10000
open Go.RowKit

set_option maxRecDepth 100000 in
set_option maxHeartbeats 4000000 in
theorem rnodes15_any (n : Int) (A : Option Addr) (c : Nat) (l : List Lf) (hm : l.length ≤ 100000) (hx : ∀ x ∈ l, (x.id.size ≤ 1000000 ∧ x.salt.size ≤ 1000000) ∧ Word x.h ∧ Word x.l) (w : World) (hR : lfS.Row w w.heap.size A l) :
    Calls Tryz.prog 29 #[.int .i64 n, .slice A l.length c] w (fun e w' => ∃ v, e = .returned v ∧ w'.ownsRow w.heap.size 46 3 v l.length (ndS.flat (l.map (nodeOf n))) ∧ Below w.heap.size w w') := by
  obtain ⟨N, hN⟩ : ∃ N, l.length = N := ⟨_, rfl⟩
  rw [hN] at hm ⊢
  have HN := hideIt hN
  clear hN
  go_enter Tryz.func29, Tryz.ntmps29
  go_wp2
  go_loopg [5, 6] N (fun gk v i wr => ∃ k : Nat, k ≤ N ∧ N - k ≤ gk ∧ i = .int .i64 k ∧ wr.ownsRow w.heap.size 46 3 v k (ndS.flat ((l.map (nodeOf n)).take k)) ∧ Below w.heap.size w wr)
  case atStart => exact ⟨0, Nat.zero_le _, by omega, rfl, by rw [List.take_zero]; exact World.ownsRow_nil _ _ _ _, Below.refl _ _⟩
  case round =>
    obtain ⟨k, hk, hgk, rfl, hown, hb⟩ := hrel
    have HG := hideIt hgk
    clear hgk
    by_cases hlt : k < N
    · obtain ⟨x, hx0⟩ : ∃ r, l[k]? = some r := ⟨_, List.getElem?_eq_getElem (by rw [HN.out]; omega)⟩
      have htk : (l.map (nodeOf n)).take (k + 1) = (l.map (nodeOf n)).take k ++ [nodeOf n x] := by rw [List.take_add_one, List.getElem?_map, hx0]; rfl
      obtain ⟨⟨h1, h2⟩, h3, h4⟩ := hx x (List.mem_of_getElem? hx0)
      have cN := fun u => rleafNode_any n x h1 h2 h3 h4 u
      obtain ⟨⟨js, jh, jl⟩, hJ⟩ : ∃ V, nodeOf n x = V := ⟨_, rfl⟩
      rw [hJ] at cN htk
      obtain ⟨ad, rfl, g1, p0, p1, p2, p3, p4⟩ := lf_get (hR.on hb) hx0
      obtain ⟨xp, xi, xs, xh, xl⟩ := x
      simp only [Nd.val, Lf.val] at cN p0 p1 p2 p3 p4
      have HTK := hideIt htk
      have hlti : (k : Int) < (N : Int) := by omega
      have happ := fun W v ho hbb => nd_app1 W w.heap.size v k ((l.map (nodeOf n)).take k) ho ⟨js, jh, jl⟩ (by omega) hbb
      clear hx0 htk hJ h1 h2 h3 h4
      go_wp2_with (first
        | (go_at_call 48; refine (cN _).mono ?_; rintro e w5 ⟨rfl, b5⟩; obtain ⟨v', w6, hrun, o6, b6⟩ := happ w5 u5 (own_below hown b5) (chain hb b5).size)
        | (at_builtin; refine gen_run rfl _ _ _ rfl _ _ rfl rfl _ w6 hrun ?_)
        | fail)
      go_roundg (N - (k + 1))
      case measure => have := HG.out; omega
      case rel => exact ⟨k + 1, by omega, Nat.le_refl _, by go_num, by rw [HTK.out]; exact o6, (chain hb b5).trans b6⟩
    · have e : k = N := by omega
      subst e
      have hlti : ¬ ((k : Int) < (k : Int)) := by omega
      rw [List.take_of_length_le (by rw [List.length_map, HN.out]; exact Nat.le_refl _)] at hown
      go_wp2
      exact bodyPost_ret (results_tmp rfl _ _ _) rfl ⟨u5, rfl, hown, hb⟩
end Go.Proofs.YtbhgcmdodjgpmaaGreatDoor
/-
  paymasterref15's New and Same, walked.
-/
namespace Go.Proofs.YtbhgcmdodjgpmaaGreatDoor
set_option linter.unusedVariables false
set_option linter.unusedSimpArgs false
set_option maxRecDepth 10000
open Go.ChangeShapes Go.WideShapes Go.ChangeAt Go.RowKit

/-- The height tells whether there may be so many. -/
theorem ht_may (m : Nat) (hm : m ≤ 300) : (htN m < 0 ↔ mayN m = false) := by
  have : ∀ m : Nat, m < 301 → (decide (htN m < 0) = !mayN m) := by decide +kernel
  have h := this m (by omega)
  constructor
  · intro h1
    rw [decide_eq_true h1] at h
    cases hm : mayN m with
    | false => rfl
    | true => rw [hm] at h; cases h
  · intro h1
    rw [h1] at h
    exact of_decide_eq_true h
theorem ht_pow (k : Nat) (hk : k ≤ 6) : htN (2 ^ k) = (k : Int) := by
  have : ∀ k : Nat, k < 7 → htN (2 ^ k) = (k : Int) := by decide +kernel
  exact this k (by omega)
theorem neq_lf_any (x y : Lf) (u : World) : (binOp .neq 36 x.val y.val).run Tryz.prog u = .ok (.bool (!x.same y)) u := run_neq_lf x y u
instance lfDec15 : DecidableEq Lf := fun x y => if h : x.same y = true then isTrue ((Lf.same_iff x y).1 h) else isFalse (fun e => h ((Lf.same_iff x y).2 e))
set_option maxRecDepth 100000 in
set_option maxHeartbeats 4000000 in
theorem rsame15_any (A B : Option Addr) (c d : Nat) (a b : List Lf) (ha : a.length ≤ 1000000) (hb : b.length ≤ 1000000) (w : World) (hR : lfS.Row w w.heap.size A a) (hQ : lfS.Row w w.heap.size B b) :
    Calls Tryz.prog 8 #[.slice A a.length c, .slice B b.length d] w (Tells (.bool (decide (a = b))) w.heap.size w) := by
  by_cases hlen : a.length = b.length
  · obtain ⟨V, hV⟩ : ∃ V, decide (a = b) = V := ⟨_, rfl⟩
    have HV := hideIt hV
    rw [hV]
    obtain ⟨N, hN⟩ : ∃ N, a.length = N := ⟨_, rfl⟩
    have HN := hideIt hN
    have HM := hideIt (hlen.symm.trans hN)
    rw [← hlen, hN]
    rw [hN] at ha
    clear hV hlen hN hb
    go_enter Tryz.func8, Tryz.ntmps8
    go_wp2
    go_loopg [5] N (fun gk i wr => ∃ k : Nat, k ≤ N ∧ N - k ≤ gk ∧ i = .int .i64 k ∧ (∀ j x y, j < k → a[j]? = some x → b[j]? = some y → x = y) ∧ Below w.heap.size w wr)
    case atStart => exact ⟨0, Nat.zero_le _, by omega, rfl, fun j x y hj => absurd hj (Nat.not_lt_zero _), Below.refl _ _⟩
    case round =>
      obtain ⟨k, hk, hgk, rfl, hall, hbw⟩ := hrel
      have HG := hideIt hgk
      have HA := hideIt hall
      clear hgk hall
      by_cases hlt : k < N
      · obtain ⟨x, hx⟩ : ∃ x, a[k]? = some x := ⟨_, List.getElem?_eq_getElem (by rw [HN.out]; exact hlt)⟩
        obtain ⟨y, hy⟩ : ∃ y, b[k]? = some y := ⟨_, List.getElem?_eq_getElem (by rw [HM.out]; exact hlt)⟩
        have hlti : (k : Int) < (N : Int) := by omega
        obtain ⟨ad, rfl, g1, p0, p1, p2, p3, p4⟩ := lf_get (hR.on hbw) hx
        obtain ⟨bd, rfl, g2, q0, q1, q2, q3, q4⟩ := lf_get (hQ.on hbw) hy
        have en := fun u => neq_lf_any x y u
        obtain ⟨s, hs⟩ : ∃ s, x.same y = s := ⟨_, rfl⟩
        rw [hs] at en
        have HX := hideIt hx
        have HY := hideIt hy
        have HS := hideIt hs
        obtain ⟨xp, xi, xs, xh, xl⟩ := x
        obtain ⟨yp, yi, ys, yh, yl⟩ := y
        simp only [Lf.val] at en p0 p1 p2 p3 p4 q0 q1 q2 q3 q4
        clear hx hy hs
        cases s with
        | true =>
          go_wp2
          go_quiet (fail)
          go_wp2
          go_roundg (N - (k + 1))
          case measure => have := HG.out; omega
          case rel => exact ⟨k + 1, by omega, Nat.le_refl _, by go_num, fun j x y hj hx hy => by
              by_cases e : j = k
              · subst e
                rw [HX.out] at hx
                rw [HY.out] at hy
                injection hx with hx
                injection hy with hy
                rw [← hx, ← hy]
                exact (Lf.same_iff _ _).1 HS.out
              · exact HA.out j x y (by omega) hx hy, by first | exact hbw | exact hbw.drew | exact below_drewN hbw _⟩
        | false =>
          have hno : V = false := by
            rw [← HV.out]
            refine decide_eq_false fun e => ?_
            have h1 := HX.out
            rw [e, HY.out] at h1
            injection h1 with h1
            have := HS.out
            rw [h1, (Lf.same_iff _ _).2 rfl] at this
            cases this
          subst hno
          go_wp2
          go_quiet (fail)
          go_wp2
          go_ret
          exact ⟨rfl, by first | exact hbw | exact hbw.drew | exact below_drewN hbw _⟩
      · have e : k = N := by omega
        subst e
        have hyes : V = true := by
          rw [← HV.out]
          exact decide_eq_true (list_same (HN.out.trans HM.out.symm) (fun j x y hx hy => HA.out j x y (by have := (List.getElem?_eq_some_iff.1 hx).1; rw [HN.out] at this; exact this) hx hy))
        subst hyes
        go_wp2
        go_ret
        exact ⟨rfl, hbw⟩
  · rw [decide_eq_false (fun e => hlen (by rw [e]))]
    obtain ⟨N, hN⟩ : ∃ N, a.length = N := ⟨_, rfl⟩
    obtain ⟨M, hM⟩ : ∃ M, b.length = M := ⟨_, rfl⟩
    rw [hN, hM] at hlen ⊢
    have hne : ¬ (N : Int) = (M : Int) := by omega
    have hne2 : ((N : Int) != (M : Int)) = true := by simp [hne]
    have hne3 : ((N : Int) == (M : Int)) = false := by simp [hne]
    clear hR hQ hN hM
    go_enter Tryz.func8, Tryz.ntmps8
    go_wp2
    go_ret
    exact ⟨rfl, Below.refl _ _⟩
end Go.Proofs.YtbhgcmdodjgpmaaGreatDoor
/-
  paymasterref15's New, Level, Root, Node, walked.
-/
namespace Go.Proofs.YtbhgcmdodjgpmaaGreatDoor
set_option linter.unusedVariables false
set_option linter.unusedSimpArgs false
set_option maxRecDepth 10000
open Go.ChangeShapes Go.WideShapes Go.ChangeAt Go.RowKit

/-- The document's tree lies there: a width, and leaves in a row of the call's own. -/
def RTr (W : World) (g gl c : Nat) (w : Int) (l : List Lf) : Prop := Box W g 59 #[.int .i64 w, .slice (some ⟨gl, 0, none⟩) l.length c] ∧ lfS.Blk W 36 gl l
section
variable {W W' : World} {g gl c : Nat} {w : Int} {l : List Lf}
theorem RTr.call (h : RTr W g gl c w l) (hb : Below W.heap.size W W') : RTr W' g gl c w l := ⟨h.1.call hb, h.2.call hb⟩
theorem RTr.past (h : RTr W g gl c w l) (o : Obj) : RTr (W.alloc o) g gl c w l := h.call (chainA (Below.refl _ _) _)
theorem RTr.drew (h : RTr W g gl c w l) : RTr W.drew g gl c w l := h.call (Below.refl _ _).drew
/-- Whatever turns that isn't it. -/
theorem RTr.off {F : Nat → Prop} (h : RTr W g gl c w l) (ho : Off F W W') (h1 : ¬ F g) (h2 : ¬ F gl) : RTr W' g gl c w l := ⟨ho.box h.1 h1, h.2.off ho h2⟩
theorem RTr.cells (h : RTr W g gl c w l) : W.cell? ⟨g, 0, none⟩ = some (.int .i64 w) ∧ W.cell? ⟨g, 1, none⟩ = some (.slice (some ⟨gl, 0, none⟩) l.length c) ∧ g < W.heap.size := ⟨h.1.read 0, h.1.read 1, h.1.inside⟩
end
theorem own_cap {W : World} {b k n n' g c : Nat} {T : TypeId} {xs : List Value} (h : W.ownsRow b T k (.slice (some ⟨g, 0, none⟩) n' c) n xs) : c ≤ 9223372036854775807 := by
  rcases h.2 with ⟨h1, h2⟩ | ⟨g', cap, cur, hv, hg, hh, hc, hm, -⟩
  · cases h1
  · injection hv with _ _ h3
    subst h3
    unfold maxLen at hm
    omega
theorem rcopy15 (w : World) (A : Option Addr) (c : Nat) (xs : List Lf) (hne : xs ≠ []) (hm : xs.length ≤ 1000000) (hR : lfS.Row w w.heap.size A xs) :
    ∃ g c' w', (∀ ty, (Builtin.append_ #[22, 22] ty #[.slice (some ⟨w.heap.size, 0, none⟩) 0 0, .slice A xs.length c]).run Tryz.prog (w.alloc (.cells #[] 36)) = .ok (.slice (some ⟨g, 0, none⟩) xs.length c') w') ∧
      lfS.Blk w' 36 g xs ∧ w.heap.size ≤ g ∧ Below w.heap.size w w' ∧ xs.length ≤ c' := by
  have L0 : Below w.heap.size w (w.alloc (.cells #[] 36)) := chainA (Below.refl _ _) _
  cases A with
  | none => exact absurd hR.none_ hne
  | some ad =>
    have own0 : (w.alloc (.cells #[] 36)).ownsRow w.heap.size 36 5 (.slice (some ⟨w.heap.size, 0, none⟩) 0 0) 0 (lfS.flat []) :=
      ⟨rfl, .inr ⟨w.heap.size, 0, #[], rfl, Nat.le_refl _, Box.made w 36 #[], Nat.le_refl _, Nat.zero_le _, rfl, rfl⟩⟩
    obtain ⟨v', w', hr, h2, h3, -⟩ := lfE.app (w.alloc (.cells #[] 36)) w.heap.size _ 0 [] own0 ad xs.length c xs rfl ((hR.call L0).cells) (by omega) (by simp) (N := xs.length) (Nat.zero_add _)
    rw [List.nil_append] at h2
    obtain ⟨g, c2, rfl, hg, hc, hB⟩ := Sh.Blk.of_own (S := lfS) h2 hne
    exact ⟨g, c2, w', hr, hB, hg, L0.grown h3 (by simp) (fun j hj => by injection hj with hj; subst hj; exact Nat.le_refl _), hc⟩
set_option maxRecDepth 100000 in
set_option maxHeartbeats 8000000 in
theorem rnew15_wrong (n : Int) (A : Option Addr) (c : Nat) (l : List Lf) (hl : l.length ≤ 300) (hs : ∀ x ∈ l, x.id.size ≤ 1000000 ∧ x.salt.size ≤ 1000000) (E : Int) (hE : wrongT n l = E) (h0 : E ≠ 0) (w : World) (hR : lfS.Row w w.heap.size A l) :
    Calls Tryz.prog 7 #[.int .i64 n, .slice A l.length c] w (Tells (.tuple #[.pointer none, .int .i64 E]) w.heap.size w) := by
  have cH := fun u => rheight15_any l.length hl u
  have hht := ht_may l.length hl
  have eV : wrongT n l = if mayW n = true then (if mayN l.length = true then (if l.all Lf.may = true then 0 else 130) else 120) else 70 := rfl
  rw [hE] at eV
  obtain ⟨N, hN⟩ : ∃ N, l.length = N := ⟨_, rfl⟩
  rw [hN] at cH hht eV hl ⊢
  have HN := hideIt hN
  obtain ⟨H, hH⟩ : ∃ H, htN N = H := ⟨_, rfl⟩
  rw [hH] at cH hht
  clear hN hE hH
  by_cases h1 : n < 1
  · have hw : mayW n = false := decide_eq_false (by omega)
    rw [hw, if_neg (by decide)] at eV
    subst eV
    clear hht
    go_enter Tryz.func7, Tryz.ntmps7
    go_wp2
    refine bodyPost_ret (results_tmp2 rfl _ _ _) rfl ?_
    exact ⟨rfl, Below.refl _ _⟩
  · by_cases h2 : 32 < n
    · have hw : mayW n = false := decide_eq_false (by omega)
      rw [hw, if_neg (by decide)] at eV
      subst eV
      clear hht
      go_enter Tryz.func7, Tryz.ntmps7
      go_wp2
      refine bodyPost_ret (results_tmp2 rfl _ _ _) rfl ?_
      exact ⟨rfl, Below.refl _ _⟩
    · have hw : mayW n = true := decide_eq_true (by omega)
      rw [hw, if_pos rfl] at eV
      have h1a : (1 : Int) ≤ n := by omega
      cases hm : mayN N with
      | false =>
        have hneg : H < 0 := hht.2 hm
        rw [hm, if_neg (by decide)] at eV
        subst eV
        clear hht hm hw
        go_enter Tryz.func7, Tryz.ntmps7
        go_wp2_with (first | (go_at_call 12; refine (cH _).mono ?_; rintro e w1 ⟨rfl, rfl⟩) | fail)
        refine bodyPost_ret (results_tmp2 rfl _ _ _) rfl ?_
        exact ⟨rfl, Below.refl _ _⟩
      | true =>
        have hneg : ¬ H < 0 := fun h => by have := hht.1 h; rw [hm] at this; cases this
        rw [hm, if_pos rfl] at eV
        have hall : l.all Lf.may = false := by
          cases ha : l.all Lf.may with
          | false => rfl
          | true => rw [ha, if_pos rfl] at eV; exact absurd eV h0
        rw [hall, if_neg (by decide)] at eV
        subst eV
        have HALL := hideIt hall
        clear hht hm hw hall
        go_enter Tryz.func7, Tryz.ntmps7
        go_wp2_with (first | (go_at_call 12; refine (cH _).mono ?_; rintro e w1 ⟨rfl, rfl⟩) | fail)
        go_loopg [6] N (fun gk i wr => ∃ k : Nat, k ≤ N ∧ N - k ≤ gk ∧ i = .int .i64 k ∧ (∀ j x, j < k → l[j]? = some x → x.may = true) ∧ Below w.heap.size w wr)
        case atStart => exact ⟨0, Nat.zero_le _, by omega, rfl, fun j x hj => absurd hj (Nat.not_lt_zero _), Below.refl _ _⟩
        case round =>
          obtain ⟨k, hk, hgk, rfl, hall, hb3⟩ := hrel
          have HG := hideIt hgk
          have HA := hideIt hall
          clear hgk hall
          by_cases hlt : k < N
          · obtain ⟨x, hx⟩ : ∃ x, l[k]? = some x := ⟨_, List.getElem?_eq_getElem (by rw [HN.out]; exact hlt)⟩
            have hlti : (k : Int) < (N : Int) := by omega
            obtain ⟨hs1, hs2⟩ := hs x (List.mem_of_getElem? hx)
            obtain ⟨t, ht⟩ : ∃ t, x.may = t := ⟨_, rfl⟩
            have cM := fun u => rmayLeaf_any x hs1 hs2 u
            rw [ht] at cM
            obtain ⟨ad, rfl, g1, p0, p1, p2, p3, p4⟩ := lf_get (hR.on hb3) hx
            have HX := hideIt hx
            have HT := hideIt ht
            obtain ⟨xp, xi, xs, xh, xl⟩ := x
            simp only [Lf.val] at cM p0 p1 p2 p3 p4
            clear hx ht hs1 hs2
            cases t with
            | true =>
              go_wp2_with (first | (go_at_call 27; refine (cM _).mono ?_; rintro e w2 ⟨rfl, b2⟩) | fail)
              go_roundg (N - (k + 1))
              case measure => have := HG.out; omega
              case rel => exact ⟨k + 1, by omega, Nat.le_refl _, by go_num, fun j x hj hx => by
                  by_cases e : j = k
                  · subst e
                    rw [HX.out] at hx
                    injection hx with hx
                    rw [← hx]
                    exact HT.out
                  · exact HA.out j x (by omega) hx, chain hb3 b2⟩
            | false =>
              go_wp2_with (first | (go_at_call 27; refine (cM _).mono ?_; rintro e w2 ⟨rfl, b2⟩) | fail)
              refine bodyPost_ret (results_tmp2 rfl _ _ _) rfl ?_
              exact ⟨rfl, chain hb3 b2⟩
          · have e : k = N := by omega
            exfalso
            have : l.all Lf.may = true := List.all_eq_true.2 fun x hx => by
              obtain ⟨j, hj⟩ := List.getElem?_of_mem hx
              exact HA.out j x (by have := (List.getElem?_eq_some_iff.1 hj).1; rw [HN.out] at this; omega) hj
            rw [HALL.out] at this
            cases this
set_option maxRecDepth 100000 in
set_option maxHeartbeats 8000000 in
theorem rnew15_may (n : Int) (A : Option Addr) (c : Nat) (l : List Lf) (k : Nat) (hk : k ≤ 6) (hlen : l.length = 2 ^ k) (hmw : mayW n = true) (hall : ∀ x ∈ l, x.may = true ∧ Word x.h ∧ Word x.l) (w : World) (hR : lfS.Row w w.heap.size A l) :
    Calls Tryz.prog 7 #[.int .i64 n, .slice A l.length c] w (fun e w' => Below w.heap.size w w' ∧
      ((room (sumN (l.map (nodeOf n))) = true ∧ ∃ g gl d, e = .returned (.tuple #[.pointer (some ⟨g, 0, none⟩), .int .i64 0]) ∧ RTr w' g gl d n l ∧ w.heap.size ≤ g ∧ w.heap.size ≤ gl) ∨
       (room (sumN (l.map (nodeOf n))) = false ∧ e = .returned (.tuple #[.pointer none, .int .i64 10])))) := by
  have hl64 : l.length ≤ 64 := by rw [hlen]; exact Nat.le_trans (Nat.pow_le_pow_right (n := 2) (by decide) hk) (by decide)
  have hl1 : 1 ≤ l.length := by rw [hlen]; exact Nat.two_pow_pos k
  have hne : l ≠ [] := fun e => by rw [e] at hl1; simp at hl1
  have hsz : ∀ x ∈ l, x.id.size ≤ 96 ∧ x.salt.size ≤ 32 := fun x hx => mayT_sizes (hall x hx).1
  have cH := fun u => rheight15_any l.length (by omega) u
  rw [hlen, ht_pow k hk, ← hlen] at cH
  have cNs := fun u hu => rnodes15_any n A c l (by omega) (fun x hx => ⟨⟨by have := hsz x hx; omega, by have := hsz x hx; omega⟩, (hall x hx).2⟩) u hu
  obtain ⟨hhv, hof⟩ := nodes_fine hmw hall
  have hnl : (l.map (nodeOf n)).length = l.length := List.length_map _
  have hcopy := fun (u : World) hR => rcopy15 u A c l hne (by omega) hR
  obtain ⟨ns, hns⟩ : ∃ ns, l.map (nodeOf n) = ns := ⟨_, rfl⟩
  rw [hns] at cNs hhv hof hnl ⊢
  have hfs := fold_sums hmw k ns (by rw [hnl, hlen]) hhv hof
  have hfn : foldN n ns = foldS n k ns := foldN_pow (by rw [allW, hmw, Bool.true_and]; exact List.all_eq_true.2 hof) (by rw [hnl, hlen]) (by omega)
  have cF := fun B d hd hd2 u hu => rfold14_any n B d ns (by rw [hnl]; omega) hd hd2 (fun x hx => ⟨hhv x hx, Nat.le_trans (of_size (hof x hx)) (by decide)⟩) u hu
  rw [hfn] at cF
  obtain ⟨R, hRm⟩ : ∃ R, room (sumN ns) = R := ⟨_, rfl⟩
  rw [hRm] at hfs ⊢
  have hF2 : (foldS n k ns).2 = if R = true then 0 else 10 := by
    cases R with
    | true => rw [if_pos rfl]; exact (hfs.1 rfl).1
    | false => rw [if_neg (by decide), hfs.2 rfl]
  obtain ⟨⟨⟨fs, fh, fl⟩, fe⟩, hFF⟩ : ∃ V, foldS n k ns = V := ⟨_, rfl⟩
  rw [hFF] at cF hF2
  simp only [Nd.val] at cF hF2
  rw [hnl] at cF
  obtain ⟨N, hN⟩ : ∃ N, l.length = N := ⟨_, rfl⟩
  rw [hN] at cH cNs cF hcopy hl64 hl1 ⊢
  have HN := hideIt hN
  have HNL := hideIt (hnl.trans hN)
  have h1 : ¬ n < 1 := by have := of_decide_eq_true hmw; omega
  have h1a : (1 : Int) ≤ n := by omega
  have h2 : ¬ (32 : Int) < n := by have := of_decide_eq_true hmw; omega
  have hneg : ¬ (k : Int) < 0 := by omega
  clear hns hN hnl hlen hfs hfn hRm hFF hof hhv hne
  go_enter Tryz.func7, Tryz.ntmps7
  go_wp2_with (first | (go_at_call 12; refine (cH _).mono ?_; rintro e w1 ⟨rfl, rfl⟩) | fail)
  go_loopg [6] N (fun gk i wr => ∃ k : Nat, k ≤ N ∧ N - k ≤ gk ∧ i = .int .i64 k ∧ Below w.heap.size w wr)
  case atStart => exact ⟨0, Nat.zero_le _, by omega, rfl, Below.refl _ _⟩
  case round =>
    obtain ⟨m, hm, hgk, rfl, hb3⟩ := hrel
    have HG := hideIt hgk
    clear hgk
    by_cases hlt : m < N
    · obtain ⟨x, hx⟩ : ∃ x, l[m]? = some x := ⟨_, List.getElem?_eq_getElem (by rw [HN.out]; exact hlt)⟩
      have hlti : (m : Int) < (N : Int) := by omega
      obtain ⟨hs1, hs2⟩ := hsz x (List.mem_of_getElem? hx)
      have cM := fun u => rmayLeaf_any x (by omega) (by omega) u
      rw [(hall x (List.mem_of_getElem? hx)).1] at cM
      obtain ⟨ad, rfl, g1, p0, p1, p2, p3, p4⟩ := lf_get (hR.on hb3) hx
      obtain ⟨xp, xi, xs, xh, xl⟩ := x
      simp only [Lf.val] at cM p0 p1 p2 p3 p4
      clear hx hs1 hs2
      go_wp2_with (first | (go_at_call 27; refine (cM _).mono ?_; rintro e w2 ⟨rfl, b2⟩) | fail)
      go_roundg (N - (m + 1))
      case measure => have := HG.out; omega
      case rel => exact ⟨m + 1, by omega, Nat.le_refl _, by go_num, chain hb3 b2⟩
    · have e : m = N := by omega
      subst e
      have hlti : ¬ ((m : Int) < (m : Int)) := by omega
      have J0 := (Has.start w).call hb3
      go_upto_region 11 with (first
        | (go_at_call 29; refine (cNs _ (hR.on J0.below)).mono ?_; rintro e w4 ⟨v, rfl, o4, b4⟩; have J1 := J0.call b4; obtain ⟨gw, cw, rfl, hgw, hcw, Bw⟩ := Sh.Blk.of_own (S := ndS) (l := ns) (by rw [HNL.out]; exact o4) (fun e => by have := HNL.out; rw [e] at this; simp at this; omega); rw [HNL.out] at hcw; rw [HNL.out]; have hcm := own_cap o4)
        | (go_at_call 28; refine (cF (some ⟨gw, 0, none⟩) cw hcw hcm _ Bw.row).mono ?_; rintro e w5 ⟨rfl, b5⟩; have J2 := (J1.call b5).past (.cells (ndB fs fh fl) 46))
        | fail)
      change Code.wp _ _ _ _ (w5.alloc (.cells (ndB fs fh fl) 46))
      generalize w5.alloc (.cells (ndB fs fh fl) 46) = W5 at *
      clear cF cNs cH Bw J1 J0 o4 b4 b5
      cases R with
      | true =>
        rw [if_pos rfl] at hF2
        subst hF2
        obtain ⟨gl, c', w7, hrun, B7, hgl, b7, hc7⟩ := hcopy W5 (hR.on J2.below)
        go_wp2_with (first
          | (at_builtin; refine gen_run rfl _ _ _ rfl _ _ rfl rfl _ w7 hrun ?_)
          | fail)
        refine bodyPost_ret (results_tmp2 rfl _ _ _) rfl ?_
        have hb8 := chainA (Below.refl w7.heap.size w7) (.cells #[.int .i64 n, .slice (some ⟨gl, 0, none⟩) m c'] 59)
        have e8 := chain J2.below b7
        exact ⟨chainA e8 _, w7.heap.size, rfl, gl, ⟨c', by rw [HN.out]; exact Box.made _ _ _, B7.call hb8⟩, e8.size, Nat.le_trans J2.size hgl⟩
      | false =>
        rw [if_neg (by decide)] at hF2
        subst hF2
        clear hcopy
        go_wp2
        refine bodyPost_ret (results_tmp2 rfl _ _ _) rfl ?_
        exact ⟨J2.below, rfl⟩
end Go.Proofs.YtbhgcmdodjgpmaaGreatDoor
/-
  paymasterref15's Level, Root, Node, Set, walked.
-/
namespace Go.Proofs.YtbhgcmdodjgpmaaGreatDoor
set_option linter.unusedVariables false
set_option linter.unusedSimpArgs false
set_option maxRecDepth 10000
open Go.ChangeShapes Go.WideShapes Go.ChangeAt Go.RowKit

section
variable {W : World} {g gl c : Nat} {n : Int} {l : List Lf} {k : Nat}
set_option maxRecDepth 100000 in
set_option maxHeartbeats 8000000 in
theorem rlevel15_any (h : RTr W g gl c n l) (hF : FairT n l k) (hk : k ≤ 6) {j : Nat} (hj : j ≤ k) :
    Calls Tryz.prog 15 #[.pointer (some ⟨g, 0, none⟩), .int .i64 j] W (fun e w' => Below W.heap.size W w' ∧ ∃ v, e = .returned v ∧ w'.ownsRow W.heap.size 46 3 v (2 ^ (k - j)) (ndS.flat (upN n j (l.map (nodeOf n))))) := by
  have hsz : ∀ x ∈ l, x.id.size ≤ 96 ∧ x.salt.size ≤ 32 := fun x hx => mayT_sizes (hF.all x hx).1
  have hl64 : l.length ≤ 64 := by rw [hF.len]; exact Nat.le_trans (Nat.pow_le_pow_right (n := 2) (by decide) hk) (by decide)
  have cNs := fun u hu => rnodes15_any n (some ⟨gl, 0, none⟩) c l (by omega) (fun x hx => ⟨⟨by have := hsz x hx; omega, by have := hsz x hx; omega⟩, (hF.all x hx).2⟩) u hu
  have hup := fun (i : Nat) (hi : i ≤ k) => hF.up hi
  have hul := fun (i : Nat) (hi : i ≤ k) => hF.ulen hi
  obtain ⟨t0, t1, tin⟩ := h.cells
  have hlen := hF.len
  obtain ⟨ns, hns⟩ : ∃ ns, l.map (nodeOf n) = ns := ⟨_, rfl⟩
  rw [hns] at cNs hup hul ⊢
  have HL := hideIt hlen
  have HUP := hideIt hup
  have HUL := hideIt hul
  have hnl : ns.length = l.length := by rw [← hns, List.length_map]
  have HNL := hideIt hnl
  have hR := h.2.row
  have hj0 : ¬ (j : Int) < 0 := by omega
  clear hF hlen hns hup hul hsz hnl
  go_enter Tryz.func15, Tryz.ntmps15
  go_upto_region 3 with fail
  go_cut [5] (fun s5 wx => ∃ v, s5 = v ∧ wx.ownsRow W.heap.size 46 3 v l.length (ndS.flat ns) ∧ Below W.heap.size W wx)
  case first =>
    have hS : ∀ u, RTr u g gl c n l → u.cell? ⟨g, 0, none⟩ = some (.int .i64 n) ∧ u.cell? ⟨g, 1, none⟩ = some (.slice (some ⟨gl, 0, none⟩) l.length c) ∧ g < u.heap.size := fun u hu => hu.cells
    refine wp_region_held_drew (S := fun u => u.cell? ⟨g, 0, none⟩ = some (.int .i64 n) ∧ u.cell? ⟨g, 1, none⟩ = some (.slice (some ⟨gl, 0, none⟩) l.length c) ∧ g < u.heap.size) (by kernel_rfl) (hS _ h.drew) (fun hHeld => ?_)
    have hd := h.drew
    have hRd : lfS.Row W.drew W.drew.heap.size (some ⟨gl, 0, none⟩) l := hR.on (Below.refl _ _).drew
    have bd : Below W.heap.size W W.drew := (Below.refl _ _).drew
    have hsd : W.drew.heap.size = W.heap.size := by simp
    generalize W.drew = Wd at *
    refine wpAnyH_take (i := 0) (v := ?_) rfl (by kernel_rfl) (by kernel_rfl) (by kernel_rfl) (fun _ _ _ h => h) (Or.inl ⟨by rfl, ?_⟩) (by assumption) ?_
    rotate_left 1
    · intro w hSw; (try dsimp only at hSw); go_simp; try with_reducible rfl
    try simp only [Act.put, List.getElem_toArray, List.getElem_cons_succ, List.getElem_cons_zero, List.setIfInBounds_toArray, List.set_cons_zero, List.set_cons_succ]
    refine wpAnyH_take (i := 1) (v := ?_) rfl (by kernel_rfl) (by kernel_rfl) (by kernel_rfl) (fun _ _ _ h => h) (Or.inl ⟨by rfl, ?_⟩) (by assumption) ?_
    rotate_left 1
    · intro w hSw; (try dsimp only at hSw); go_simp; try with_reducible rfl
    try simp only [Act.put, List.getElem_toArray, List.getElem_cons_succ, List.getElem_cons_zero, List.setIfInBounds_toArray, List.set_cons_zero, List.set_cons_succ]
    refine wpAnyH_take (i := 2) (v := ?_) rfl (by kernel_rfl) (by kernel_rfl) (by kernel_rfl) (fun _ _ _ h => h) (Or.inl ⟨by rfl, ?_⟩) (by assumption) ?_
    rotate_left 1
    · intro w hSw; (try dsimp only at hSw); go_simp; try with_reducible rfl
    try simp only [Act.put, List.getElem_toArray, List.getElem_cons_succ, List.getElem_cons_zero, List.setIfInBounds_toArray, List.set_cons_zero, List.set_cons_succ]
    refine wpAnyH_take (i := 3) (v := ?_) rfl (by kernel_rfl) (by kernel_rfl) (by kernel_rfl) (fun _ _ _ h => h) (Or.inl ⟨by rfl, ?_⟩) (by assumption) ?_
    rotate_left 1
    · intro w hSw; (try dsimp only at hSw); go_simp; try with_reducible rfl
    try simp only [Act.put, List.getElem_toArray, List.getElem_cons_succ, List.getElem_cons_zero, List.setIfInBounds_toArray, List.set_cons_zero, List.set_cons_succ]
    refine wpAnyH_take (i := 4) (v := ?_) rfl (by kernel_rfl) (by kernel_rfl) (by kernel_rfl) (fun _ _ _ h => h) (Or.inl ⟨by rfl, ?_⟩) (by assumption) ?_
    rotate_left 1
    · intro w hSw; (try dsimp only at hSw); go_simp; try with_reducible rfl
    try simp only [Act.put, List.getElem_toArray, List.getElem_cons_succ, List.getElem_cons_zero, List.setIfInBounds_toArray, List.set_cons_zero, List.set_cons_succ]
    refine wpAnyH_take (i := 5) (v := ?_) rfl (by kernel_rfl) (by kernel_rfl) (by kernel_rfl) (fun _ _ _ h => h) (Or.inl ⟨by rfl, ?_⟩) (by assumption) ?_
    rotate_left 1
    · intro w hSw; (try dsimp only at hSw); go_simp; try with_reducible rfl
    try simp only [Act.put, List.getElem_toArray, List.getElem_cons_succ, List.getElem_cons_zero, List.setIfInBounds_toArray, List.set_cons_zero, List.set_cons_succ]
    refine wpAnyH_take (i := 6) (v := ?_) rfl (by kernel_rfl) (by kernel_rfl) (by kernel_rfl) (fun _ _ _ h => h) (Or.inl ⟨by rfl, ?_⟩) (by assumption) ?_
    rotate_left 1
    · intro w hSw; (try dsimp only at hSw); go_simp; try with_reducible rfl
    try simp only [Act.put, List.getElem_toArray, List.getElem_cons_succ, List.getElem_cons_zero, List.setIfInBounds_toArray, List.set_cons_zero, List.set_cons_succ]
    refine wpAnyH_take (i := 7) (v := ?_) rfl (by kernel_rfl) (by kernel_rfl) (by kernel_rfl) (fun _ _ _ h => h) (Or.inl ⟨by rfl, ?_⟩) (by assumption) ?_
    rotate_left 1
    · intro w hSw; (try dsimp only at hSw); go_simp; try with_reducible rfl
    try simp only [Act.put, List.getElem_toArray, List.getElem_cons_succ, List.getElem_cons_zero, List.setIfInBounds_toArray, List.set_cons_zero, List.set_cons_succ]
    refine wpAnyH_ready (rs := [8]) (by kernel_rfl) (by simp) (AllReadyH.cons rfl (fun K hK => ?_) AllReadyH.nil)
    go_simp
    go_at_call 29
    refine (cNs _ hRd).mono ?_
    rintro e w4 ⟨v, rfl, o4, b4⟩
    try simp only []
    refine hK.out _ _ (hS _ (hd.call b4)) (fun hHeld => ?_)
    clear hK K
    try simp only [Act.put, List.getElem_toArray, List.getElem_cons_succ, List.getElem_cons_zero, List.setIfInBounds_toArray, List.set_cons_zero, List.set_cons_succ]
    refine wpAnyH_take (i := 9) (v := ?_) rfl (by kernel_rfl) (by kernel_rfl) (by kernel_rfl) (fun _ _ _ h => h) (Or.inl ⟨by rfl, ?_⟩) (by assumption) ?_
    rotate_left 1
    · intro w hSw; (try dsimp only at hSw); go_simp; try with_reducible rfl
    try simp only [Act.put, List.getElem_toArray, List.getElem_cons_succ, List.getElem_cons_zero, List.setIfInBounds_toArray, List.set_cons_zero, List.set_cons_succ]
    refine wpAnyH_done (by kernel_rfl) ?_ _
    go_wp2
    go_meet
    exact ⟨_, rfl, own_mono o4 (Nat.le_of_eq hsd.symm), chain bd b4⟩
  case rest =>
    obtain ⟨v, rfl, own0, b0⟩ := hcut
    rename World => W1
    rw [HL.out] at own0
    go_wp2
    go_loopg [5, 6] j (fun gk v i wr => ∃ m : Nat, m ≤ j ∧ j - m ≤ gk ∧ i = .int .i64 m ∧ wr.ownsRow W.heap.size 46 3 v (2 ^ (k - m)) (ndS.flat (upN n m ns)) ∧ Below W.heap.size W wr)
    case atStart => exact ⟨0, Nat.zero_le _, by omega, rfl, own0, b0⟩
    case round =>
      obtain ⟨m, hm, hgk, rfl, hown, hb⟩ := hrel
      have HG := hideIt hgk
      clear hgk own0 b0
      by_cases hlt : m < j
      · have hmi : (m : Int) < (j : Int) := by omega
        have hul := HUL.out m (by omega)
        obtain ⟨f1, f2, -⟩ := HUP.out m (by omega)
        have hMM : 2 ^ (k - m) = 2 ^ (k - (m + 1)) + 2 ^ (k - (m + 1)) := by rw [show k - m = k - (m + 1) + 1 by omega, pow_two]
        have hMb : 2 ^ (k - (m + 1)) ≤ 64 := Nat.le_trans (Nat.pow_le_pow_right (n := 2) (by decide) (by omega : k - (m + 1) ≤ 6)) (by decide)
        rw [← hul] at hown
        obtain ⟨A', c', rfl, -, hRow⟩ := Sh.own_row (S := ndS) hown
        have cU := fun u hu => rup15_any n A' c' (2 ^ (k - (m + 1))) (upN n m ns) (hul.trans hMM) (by omega) (fun x hx => ⟨f2 x hx, f1 x hx⟩) u hu
        have hr := (h.call hb).cells
        obtain ⟨t0', t1', tin'⟩ := hr
        obtain ⟨M2, hM2⟩ : ∃ M2, 2 ^ (k - (m + 1)) = M2 := ⟨_, rfl⟩
        rw [hM2] at cU
        have HM2 := hideIt hM2
        clear hul f1 f2 hMM hMb hM2
        go_wp2_with (first
          | (go_at_call 31; refine (cU _ hRow).mono ?_; rintro e w5 ⟨v5, rfl, o5, b5⟩)
          | fail)
        go_roundg (j - (m + 1))
        case measure => have := HG.out; omega
        case rel => exact ⟨m + 1, by omega, Nat.le_refl _, by go_num, by rw [HM2.out]; exact own_mono o5 hb.size, chain hb b5⟩
      · have e : m = j := by omega
        subst e
        have hmi : ¬ (m : Int) < (m : Int) := by omega
        go_wp2
        exact bodyPost_ret (results_tmp rfl _ _ _) rfl ⟨hb, u5, rfl, hown⟩
theorem level_blk (hF : FairT n l k) {j : Nat} (hj : j ≤ k) {W' : World} {v : Value} {b : Nat} (h : W'.ownsRow b 46 3 v (2 ^ (k - j)) (ndS.flat (upN n j (l.map (nodeOf n))))) :
    ∃ gw cw, v = .slice (some ⟨gw, 0, none⟩) (2 ^ (k - j)) cw ∧ b ≤ gw ∧ ndS.Blk W' 46 gw (upN n j (l.map (nodeOf n))) := by
  have hul := hF.ulen hj
  rw [← hul] at h
  obtain ⟨gw, cw, hv, hg, -, hB⟩ := Sh.Blk.of_own (S := ndS) h (fun e => by rw [e, List.length_nil] at hul; have := Nat.two_pow_pos (k - j); omega)
  rw [hul] at hv
  exact ⟨gw, cw, hv, hg, hB⟩
set_option maxRecDepth 100000 in
set_option maxHeartbeats 8000000 in
theorem rroot15_any (h : RTr W g gl c n l) (hF : FairT n l k) (hk : k ≤ 6) :
    Calls Tryz.prog 14 #[.pointer (some ⟨g, 0, none⟩)] W (Tells (rootV (topN n l k) k) W.heap.size W) := by
  have hl64 : l.length ≤ 64 := by rw [hF.len]; exact Nat.le_trans (Nat.pow_le_pow_right (n := 2) (by decide) hk) (by decide)
  have h1 := h.past (.cells #[.string ⟨#[]⟩, .int .u64 0, .int .u64 0, .int .i64 0] 41)
  have cH := fun u => rheight15_any l.length (by omega) u
  rw [hF.len, ht_pow k hk, ← hF.len] at cH
  have cL := rlevel15_any h1 hF hk (Nat.le_refl k)
  obtain ⟨t0, t1, tin⟩ := h1.cells
  have hbk := fun (W' : World) v b hv => level_blk (W' := W') (v := v) (b := b) hF (Nat.le_refl k) hv
  have eT : ndAt (upN n k (l.map (nodeOf n))) 0 = topN n l k := rfl
  have hul := hF.ulen (Nat.le_refl k)
  rw [Nat.sub_self, Nat.pow_zero] at hul hbk cL
  have E := (Has.start W).addAt 41 #[.string ⟨#[]⟩, .int .u64 0, .int .u64 0, .int .i64 0] (g := W.heap.size) rfl
  generalize topN n l k = T at *
  obtain ⟨ts, th, tl⟩ := T
  have HET := hideIt eT
  have HUL := hideIt hul
  clear h h1 eT hul
  go_enter Tryz.func14, Tryz.ntmps14
  go_upto_region 1 with fail
  change Code.wp _ _ _ _ (W.alloc (.cells #[.string ⟨#[]⟩, .int .u64 0, .int .u64 0, .int .i64 0] 41))
  obtain ⟨g2, hg2⟩ : ∃ g, W.heap.size = g := ⟨_, rfl⟩
  generalize W.alloc (.cells #[.string ⟨#[]⟩, .int .u64 0, .int .u64 0, .int .i64 0] 41) = W1 at *
  rw [hg2] at E ⊢
  go_upto_region 3 with (first
    | (go_at_call 12; refine (cH _).mono ?_; rintro e w1 ⟨rfl, rfl⟩)
    | (go_at_call 15; refine cL.mono ?_; rintro e w4 ⟨b4, v, rfl, o4⟩; obtain ⟨gw, cw, rfl, hgw, Bw⟩ := hbk _ _ _ o4; have K4 := E.call b4)
    | fail)
  obtain ⟨z, hz, q0, q1, q2⟩ := nd_there Bw 0 (by rw [HUL.out]; decide)
  have ez : z = ⟨ts, th, tl⟩ := by rw [← HET.out, ndAt, List.getD_eq_getElem?_getD, hz]; rfl
  subst ez
  simp only [Nat.zero_mul, Nat.zero_add] at q0 q1 q2
  have hgw2 : g2 < gw := Nat.lt_of_lt_of_le (E.box 0).inside hgw
  have hgin := Bw.inside
  have hS : ∀ u : World, (∀ i, u.cell? ⟨gw, i, none⟩ = w4.cell? ⟨gw, i, none⟩) → w4.heap.size ≤ u.heap.size → (u.cell? ⟨gw, 0, none⟩ = some (.string ts) ∧ u.cell? ⟨gw, 1, none⟩ = some (.int .u64 th) ∧ u.cell? ⟨gw, 2, none⟩ = some (.int .u64 tl)) ∧ gw < u.heap.size := fun u hu hs =>
    ⟨⟨(hu 0).trans q0, (hu 1).trans q1, (hu 2).trans q2⟩, by omega⟩
  have b0 := (Below.refl w4.heap.size w4).drew
  refine wp_region_held_drew (S := fun u => (u.cell? ⟨gw, 0, none⟩ = some (.string ts) ∧ u.cell? ⟨gw, 1, none⟩ = some (.int .u64 th) ∧ u.cell? ⟨gw, 2, none⟩ = some (.int .u64 tl)) ∧ gw < u.heap.size) (by kernel_rfl) (hS _ (fun i => b0.cell (p := ⟨gw, i, none⟩) hgin) b0.size) (fun hHeld => ?_)
  have Kd := K4.call b0
  have Bd := Bw.call b0
  have hSd := hS _ (fun i => b0.cell (p := ⟨gw, i, none⟩) hgin) b0.size
  clear hS q0 q1 q2
  generalize w4.drew = Wd at *
  refine wpAnyH_take (i := 0) (v := ?_) rfl (by kernel_rfl) (by kernel_rfl) (by kernel_rfl) (fun _ _ _ h => h) (Or.inl ⟨by rfl, ?_⟩) (by assumption) ?_
  rotate_left 1
  · intro w hSw; (try dsimp only at hSw); go_simp; try with_reducible rfl
  try simp only [Act.put, List.getElem_toArray, List.getElem_cons_succ, List.getElem_cons_zero, List.setIfInBounds_toArray, List.set_cons_zero, List.set_cons_succ]
  refine wpAnyH_take (i := 1) (v := ?_) rfl (by kernel_rfl) (by kernel_rfl) (by kernel_rfl) (fun _ _ _ h => h) (Or.inl ⟨by rfl, ?_⟩) (by assumption) ?_
  rotate_left 1
  · intro w hSw; (try dsimp only at hSw); go_simp; try with_reducible rfl
  try simp only [Act.put, List.getElem_toArray, List.getElem_cons_succ, List.getElem_cons_zero, List.setIfInBounds_toArray, List.set_cons_zero, List.set_cons_succ]
  refine wpAnyH_take (i := 2) (v := ?_) rfl (by kernel_rfl) (by kernel_rfl) (by kernel_rfl) (fun _ _ _ h => h) (Or.inl ⟨by rfl, ?_⟩) (by assumption) ?_
  rotate_left 1
  · intro w hSw; (try dsimp only at hSw); go_simp; try with_reducible rfl
  try simp only [Act.put, List.getElem_toArray, List.getElem_cons_succ, List.getElem_cons_zero, List.setIfInBounds_toArray, List.set_cons_zero, List.set_cons_succ]
  refine wpAnyH_take (i := 3) (v := ?_) rfl (by kernel_rfl) (by kernel_rfl) (by kernel_rfl) (fun _ _ _ h => h) (Or.inl ⟨by rfl, ?_⟩) (by assumption) ?_
  rotate_left 1
  · intro w hSw; (try dsimp only at hSw); go_simp; try with_reducible rfl
  try simp only [Act.put, List.getElem_toArray, List.getElem_cons_succ, List.getElem_cons_zero, List.setIfInBounds_toArray, List.set_cons_zero, List.set_cons_succ]
  refine wpAnyH_take (i := 4) (v := ?_) rfl (by kernel_rfl) (by kernel_rfl) (by kernel_rfl) (fun _ _ _ h => h) (Or.inl ⟨by rfl, ?_⟩) (by assumption) ?_
  rotate_left 1
  · intro w hSw; (try dsimp only at hSw); go_simp; try with_reducible rfl
  try simp only [Act.put, List.getElem_toArray, List.getElem_cons_succ, List.getElem_cons_zero, List.setIfInBounds_toArray, List.set_cons_zero, List.set_cons_succ]
  refine wpAnyH_take (i := 5) (v := ?_) rfl (by kernel_rfl) (by kernel_rfl) (by kernel_rfl) (fun _ _ _ h => h) (Or.inl ⟨by rfl, ?_⟩) (by assumption) ?_
  rotate_left 1
  · intro w hSw; (try dsimp only at hSw); go_simp; try with_reducible rfl
  try simp only [Act.put, List.getElem_toArray, List.getElem_cons_succ, List.getElem_cons_zero, List.setIfInBounds_toArray, List.set_cons_zero, List.set_cons_succ]
  refine wpAnyH_take (i := 6) (v := ?_) rfl (by kernel_rfl) (by kernel_rfl) (by kernel_rfl) (fun _ _ _ h => h) (Or.inl ⟨by rfl, ?_⟩) (by assumption) ?_
  rotate_left 1
  · intro w hSw; (try dsimp only at hSw); go_simp; try with_reducible rfl
  try simp only [Act.put, List.getElem_toArray, List.getElem_cons_succ, List.getElem_cons_zero, List.setIfInBounds_toArray, List.set_cons_zero, List.set_cons_succ]
  refine wpAnyH_take (i := 7) (v := ?_) rfl (by kernel_rfl) (by kernel_rfl) (by kernel_rfl) (fun _ _ _ h => h) (Or.inl ⟨by rfl, ?_⟩) (by assumption) ?_
  rotate_left 1
  · intro w hSw; (try dsimp only at hSw); go_simp; try with_reducible rfl
  try simp only [Act.put, List.getElem_toArray, List.getElem_cons_succ, List.getElem_cons_zero, List.setIfInBounds_toArray, List.set_cons_zero, List.set_cons_succ]
  refine wpAnyH_take (i := 8) (v := ?_) rfl (by kernel_rfl) (by kernel_rfl) (by kernel_rfl) (fun _ _ _ h => h) (Or.inl ⟨by rfl, ?_⟩) (by assumption) ?_
  rotate_left 1
  · intro w hSw; (try dsimp only at hSw); go_simp; try with_reducible rfl
  try simp only [Act.put, List.getElem_toArray, List.getElem_cons_succ, List.getElem_cons_zero, List.setIfInBounds_toArray, List.set_cons_zero, List.set_cons_succ]
  refine wpAnyH_take (i := 9) (v := ?_) rfl (by kernel_rfl) (by kernel_rfl) (by kernel_rfl) (fun _ _ _ h => h) (Or.inl ⟨by rfl, ?_⟩) (by assumption) ?_
  rotate_left 1
  · intro w hSw; (try dsimp only at hSw); go_simp; try with_reducible rfl
  try simp only [Act.put, List.getElem_toArray, List.getElem_cons_succ, List.getElem_cons_zero, List.setIfInBounds_toArray, List.set_cons_zero, List.set_cons_succ]
  obtain ⟨⟨y0, y1, y2, y3⟩, ⟨yf0, yf1, yf2, yf3⟩, yin⟩ := (Kd.box 0).four4
  refine wpAnyH_ready (rs := [10]) (by kernel_rfl) (by simp) (AllReadyH.cons rfl (fun K hK => ?_) AllReadyH.nil)
  go_simp
  have E2 := told_four Kd (Nat.le_of_eq hg2) (.string ts) (.int .u64 th) (.int .u64 tl) (.int .i64 k)
  obtain ⟨curN, restN, hxN, -⟩ := Bd
  have X2 := (((hxN.apart (p := ⟨g2, 0, none⟩) (by show gw ≠ g2; omega) (.string ts)).apart (p := ⟨g2, 1, none⟩) (by show gw ≠ g2; omega) (.int .u64 th)).apart (p := ⟨g2, 2, none⟩) (by show gw ≠ g2; omega) (.int .u64 tl)).apart (p := ⟨g2, 3, none⟩) (by show gw ≠ g2; omega) (.int .i64 k)
  have hSe : ((((((Wd.setCell ⟨g2, 0, none⟩ (.string ts)).setCell ⟨g2, 1, none⟩ (.int .u64 th)).setCell ⟨g2, 2, none⟩ (.int .u64 tl)).setCell ⟨g2, 3, none⟩ (.int .i64 k)).cell? ⟨gw, 0, none⟩ = some (.string ts) ∧ ((((Wd.setCell ⟨g2, 0, none⟩ (.string ts)).setCell ⟨g2, 1, none⟩ (.int .u64 th)).setCell ⟨g2, 2, none⟩ (.int .u64 tl)).setCell ⟨g2, 3, none⟩ (.int .i64 k)).cell? ⟨gw, 1, none⟩ = some (.int .u64 th) ∧ ((((Wd.setCell ⟨g2, 0, none⟩ (.string ts)).setCell ⟨g2, 1, none⟩ (.int .u64 th)).setCell ⟨g2, 2, none⟩ (.int .u64 tl)).setCell ⟨g2, 3, none⟩ (.int .i64 k)).cell? ⟨gw, 2, none⟩ = some (.int .u64 tl)) ∧ gw < ((((Wd.setCell ⟨g2, 0, none⟩ (.string ts)).setCell ⟨g2, 1, none⟩ (.int .u64 th)).setCell ⟨g2, 2, none⟩ (.int .u64 tl)).setCell ⟨g2, 3, none⟩ (.int .i64 k)).heap.size) :=
    ⟨⟨by rw [X2.read 0, ← hxN.read 0]; exact hSd.1.1, by rw [X2.read 1, ← hxN.read 1]; exact hSd.1.2.1, by rw [X2.read 2, ← hxN.read 2]; exact hSd.1.2.2⟩, X2.inside⟩
  generalize World.setCell (World.setCell (World.setCell (World.setCell Wd _ _) _ _) _ _) _ _ = W9 at *
  refine hK.out _ _ (hSe) (fun hHeld => ?_)
  clear hK K
  try simp only [Act.put, List.getElem_toArray, List.getElem_cons_succ, List.getElem_cons_zero, List.setIfInBounds_toArray, List.set_cons_zero, List.set_cons_succ]
  refine wpAnyH_done (by kernel_rfl) ?_ _
  clear y0 y1 y2 y3 yf0 yf1 yf2 yf3 yin
  go_wp2
  obtain ⟨⟨v0, v1, v2, v3⟩, -, -⟩ := (E2.box 0).four4
  exact bodyPost_ret (v := rootV ⟨ts, th, tl⟩ k) (by simp [results, Tryz.results14, go_sem, rootV, v0, v1, v2, v3]) rfl ⟨rfl, by first | exact E2.below | (rw [hg2]; exact E2.below) | (rw [← hg2]; exact E2.below)⟩
set_option maxRecDepth 100000 in
set_option maxHeartbeats 8000000 in
theorem rnode15_out (h : RTr W g gl c n l) (hF : FairT n l k) (hk : k ≤ 6) (lv : Int) (p : Int) (hlv : ¬ (0 ≤ lv ∧ lv ≤ (k : Int))) :
    Calls Tryz.prog 17 #[.pointer (some ⟨g, 0, none⟩), .int .i64 lv, .int .u64 p] W (Tells (.tuple #[Nd.zero.val, .bool false]) W.heap.size W) := by
  have hl64 : l.length ≤ 64 := by rw [hF.len]; exact Nat.le_trans (Nat.pow_le_pow_right (n := 2) (by decide) hk) (by decide)
  have h1 := h.past (.cells (ndB ⟨#[]⟩ 0 0) 46)
  have cH := fun u => rheight15_any l.length (by omega) u
  rw [hF.len, ht_pow k hk, ← hF.len] at cH
  obtain ⟨t0, t1, tin⟩ := h1.cells
  have E := (Has.start W).addAt 46 (ndB ⟨#[]⟩ 0 0) (g := W.heap.size) rfl
  obtain ⟨x0, x1, x2, xf0, xf1, xf2, xin⟩ := (E.box 0).three
  clear h h1 hF
  by_cases h0 : lv < 0
  · clear hlv
    go_enter Tryz.func17, Tryz.ntmps17
    go_wp2
    clear x0 x1 x2 xf0 xf1 xf2 xin
    change bodyPost _ _ _ _ _ (W.alloc (.cells (ndB ⟨#[]⟩ 0 0) 46))
    generalize W.alloc (.cells (ndB ⟨#[]⟩ 0 0) 46) = W9 at *
    obtain ⟨v0, v1, v2, -, -, -, -⟩ := (E.box 0).three
    exact bodyPost_ret (v := .tuple #[Nd.zero.val, .bool false]) (by simp [results, Tryz.results17, go_sem, Nd.val, Nd.zero, v0, v1, v2]) rfl ⟨rfl, E.below⟩
  · have hgt : (k : Int) < lv := by omega
    clear hlv
    go_enter Tryz.func17, Tryz.ntmps17
    go_wp2_with (first | (go_at_call 12; refine (cH _).mono ?_; rintro e w1 ⟨rfl, rfl⟩) | fail)
    clear x0 x1 x2 xf0 xf1 xf2 xin
    change bodyPost _ _ _ _ _ (W.alloc (.cells (ndB ⟨#[]⟩ 0 0) 46))
    generalize W.alloc (.cells (ndB ⟨#[]⟩ 0 0) 46) = W9 at *
    obtain ⟨v0, v1, v2, -, -, -, -⟩ := (E.box 0).three
    exact bodyPost_ret (v := .tuple #[Nd.zero.val, .bool false]) (by simp [results, Tryz.results17, go_sem, Nd.val, Nd.zero, v0, v1, v2]) rfl ⟨rfl, E.below⟩
set_option maxRecDepth 100000 in
set_option maxHeartbeats 8000000 in
theorem rnode15_in (h : RTr W g gl c n l) (hF : FairT n l k) (hk : k ≤ 6) {j : Nat} (hj : j ≤ k) (p : Nat) (hp : p < 18446744073709551616) :
    Calls Tryz.prog 17 #[.pointer (some ⟨g, 0, none⟩), .int .i64 j, .int .u64 p] W (Tells (.tuple #[(ndAt (upN n j (l.map (nodeOf n))) p).val, .bool (decide (p < 2 ^ (k - j)))]) W.heap.size W) := by
  have hl64 : l.length ≤ 64 := by rw [hF.len]; exact Nat.le_trans (Nat.pow_le_pow_right (n := 2) (by decide) hk) (by decide)
  have h1 := h.past (.cells (ndB ⟨#[]⟩ 0 0) 46)
  have cH := fun u => rheight15_any l.length (by omega) u
  rw [hF.len, ht_pow k hk, ← hF.len] at cH
  have cL := rlevel15_any h1 hF hk hj
  obtain ⟨t0, t1, tin⟩ := h1.cells
  have hbk := fun (W' : World) v b hv => level_blk (W' := W') (v := v) (b := b) hF hj hv
  have hul := hF.ulen hj
  have hMb : 2 ^ (k - j) ≤ 64 := Nat.le_trans (Nat.pow_le_pow_right (n := 2) (by decide) (by omega : k - j ≤ 6)) (by decide)
  have E := (Has.start W).addAt 46 (ndB ⟨#[]⟩ 0 0) (g := W.heap.size) rfl
  obtain ⟨L, hL⟩ : ∃ L, upN n j (l.map (nodeOf n)) = L := ⟨_, rfl⟩
  rw [hL] at cL hbk hul ⊢
  obtain ⟨M, hM⟩ : ∃ M, 2 ^ (k - j) = M := ⟨_, rfl⟩
  rw [hM] at cL hbk hul hMb ⊢
  have HUL := hideIt hul
  have hj0 : ¬ (j : Int) < 0 := by omega
  have hjk : ¬ (k : Int) < (j : Int) := by omega
  have hjkn : ¬ k < j := by omega
  have hwM : IntKind.u64.wrap (M : Int) = (M : Int) := by rw [IntKind.wrap_u64]; omega
  clear h h1 hF hul hL hM
  go_enter Tryz.func17, Tryz.ntmps17
  go_upto_region 1 with fail
  change Code.wp _ _ _ _ (W.alloc (.cells (ndB ⟨#[]⟩ 0 0) 46))
  obtain ⟨g2, hg2⟩ : ∃ g, W.heap.size = g := ⟨_, rfl⟩
  generalize W.alloc (.cells (ndB ⟨#[]⟩ 0 0) 46) = W1 at *
  rw [hg2] at E ⊢
  go_upto_region 4 with (first
    | (go_at_call 12; refine (cH _).mono ?_; rintro e w1 ⟨rfl, rfl⟩)
    | (go_at_call 15; refine cL.mono ?_; rintro e w4 ⟨b4, v, rfl, o4⟩; obtain ⟨gw, cw, rfl, hgw, Bw⟩ := hbk _ _ _ o4; have K4 := E.call b4)
    | fail)
  obtain ⟨y0, y1, y2, yf0, yf1, yf2, yin⟩ := (K4.box 0).three
  have hgin := Bw.inside
  by_cases hlt : p < M
  · obtain ⟨z, hz, q0, q1, q2⟩ := nd_there Bw p (by rw [HUL.out]; exact hlt)
    have ez : ndAt L p = z := by rw [ndAt, List.getD_eq_getElem?_getD, hz]; rfl
    have EZ := hideIt ez
    obtain ⟨zs, zh, zl⟩ := z
    simp only at q0 q1 q2
    have hlti : ¬ ((M : Int) ≤ (p : Int)) := by omega
    have hltj : (p : Int) < (M : Int) := by omega
    clear ez hz cL hbk
    go_wp2
    have E2 := told3 K4 (Nat.le_of_eq hg2) (fun x hx => by simp at hx) (.string zs) (.int .u64 zh) (.int .u64 zl)
    generalize World.setCell (World.setCell (World.setCell w4 _ _) _ _) _ _ = W9 at *
    obtain ⟨v0, v1, v2, -, -, -, -⟩ := (E2.box 0).three
    exact bodyPost_ret (v := .tuple #[Nd.val ⟨zs, zh, zl⟩, .bool true]) (by simp [results, Tryz.results17, go_sem, Nd.val, v0, v1, v2]) rfl ⟨by first | (rw [EZ.out, decide_eq_false HNLT.out]; done) | (rw [EZ.out]; done), by first | exact E2.below | (rw [hg2]; exact E2.below) | (rw [← hg2]; exact E2.below)⟩
  · have ez : ndAt L p = Nd.zero := by rw [ndAt, List.getD_eq_getElem?_getD, List.getElem?_eq_none (by rw [HUL.out]; omega)]; rfl
    have EZ := hideIt ez
    have HNLT := hideIt hlt
    have hlti : (M : Int) ≤ (p : Int) := by omega
    clear ez cL hbk
    go_wp2
    have E2 := told3 K4 (Nat.le_of_eq hg2) (fun x hx => by simp at hx) (.string ⟨#[]⟩) (.int .u64 0) (.int .u64 0)
    generalize World.setCell (World.setCell (World.setCell w4 _ _) _ _) _ _ = W9 at *
    obtain ⟨v0, v1, v2, -, -, -, -⟩ := (E2.box 0).three
    exact bodyPost_ret (v := .tuple #[Nd.zero.val, .bool false]) (by simp [results, Tryz.results17, go_sem, Nd.val, Nd.zero, v0, v1, v2]) rfl ⟨by first | (rw [EZ.out, decide_eq_false HNLT.out]; done) | (rw [EZ.out]; done), by first | exact E2.below | (rw [hg2]; exact E2.below) | (rw [← hg2]; exact E2.below)⟩
end
end Go.Proofs.YtbhgcmdodjgpmaaGreatDoor
/-
  paymasterref15's New, whatever it tells; its Set, walked.
-/
namespace Go.Proofs.YtbhgcmdodjgpmaaGreatDoor
set_option linter.unusedVariables false
set_option linter.unusedSimpArgs false
set_option maxRecDepth 10000
open Go.ChangeShapes Go.WideShapes Go.ChangeAt Go.RowKit

section
variable (n : Int) (A : Option Addr) (c : Nat) (l : List Lf) (w : World)
theorem rnew15_fair {k : Nat} (hF : FairT n l k) (hk : k ≤ 6) (hR : lfS.Row w w.heap.size A l) :
    Calls Tryz.prog 7 #[.int .i64 n, .slice A l.length c] w (fun e w' => Below w.heap.size w w' ∧ ∃ g gl d, e = .returned (.tuple #[.pointer (some ⟨g, 0, none⟩), .int .i64 0]) ∧ RTr w' g gl d n l ∧ w.heap.size ≤ g ∧ w.heap.size ≤ gl) :=
  (rnew15_may n A c l k hk hF.len hF.may hF.all w hR).mono fun e w' h => by
    obtain ⟨hb, ⟨-, h⟩ | ⟨h, -⟩⟩ := h
    · exact ⟨hb, h⟩
    · rw [hF.room] at h; cases h
theorem rnew15_err (hl : l.length ≤ 100) (hs : ∀ x ∈ l, x.id.size ≤ 1000000 ∧ x.salt.size ≤ 1000000) (hw : ∀ x ∈ l, Word x.h ∧ Word x.l) (hE : newE n l ≠ 0) (hR : lfS.Row w w.heap.size A l) :
    Calls Tryz.prog 7 #[.int .i64 n, .slice A l.length c] w (Tells (.tuple #[.pointer none, .int .i64 (newE n l)]) w.heap.size w) := by
  by_cases h0 : wrongT n l = 0
  · obtain ⟨h1, h2, h3⟩ := wrongT_zero h0
    obtain ⟨h4, h5⟩ := mayN_log h2
    have hk6 : Nat.log2 l.length ≤ 6 := by
      by_cases hh : Nat.log2 l.length ≤ 6
      · exact hh
      · have : 2 ^ 7 ≤ 2 ^ Nat.log2 l.length := Nat.pow_le_pow_right (by decide) (by omega)
        omega
    refine (rnew15_may n A c l (Nat.log2 l.length) hk6 h4 h1 (fun x hx => ⟨h3 x hx, hw x hx⟩) w hR).mono fun e w' h => ?_
    obtain ⟨hb, ⟨hr, -⟩ | ⟨hr, h⟩⟩ := h
    · rw [newE, if_pos h0, if_pos hr] at hE; exact absurd rfl hE
    · rw [newE, if_pos h0, if_neg (by rw [hr]; decide)]; exact ⟨h, hb⟩
  · have e : newE n l = wrongT n l := by rw [newE, if_neg h0]
    rw [e]
    exact rnew15_wrong n A c l (by omega) hs _ rfl h0 w hR
end
section
variable {W : World} {g gl c : Nat} {n : Int} {l : List Lf} {k : Nat}
set_option maxRecDepth 100000 in
set_option maxHeartbeats 4000000 in
theorem rset15_arg (h : RTr W g gl c n l) (hl : l.length ≤ 1000000) (p : Nat) (hp : p < 18446744073709551616) (hpl : ¬ p < l.length) (x : Lf) :
    Calls Tryz.prog 20 #[.pointer (some ⟨g, 0, none⟩), .int .u64 p, x.val] W (Tells (.tuple #[.pointer (some ⟨g, 0, none⟩), .int .i64 2]) W.heap.size W) := by
  obtain ⟨xp, xi, xs, xh, xl⟩ := x
  show Calls _ _ #[_, _, .agg (lfB xp xi xs xh xl)] _ _
  have L := chainA (Below.refl W.heap.size W) (.cells (lfB xp xi xs xh xl) 36)
  obtain ⟨t0, t1, tin⟩ := (h.call L).cells
  obtain ⟨M, hM⟩ : ∃ M, l.length = M := ⟨_, rfl⟩
  rw [hM] at t1 hl hpl
  have e1 : IntKind.u64.wrap (M : Int) = (M : Int) := by rw [IntKind.wrap_u64]; omega
  have e2 : (M : Int) ≤ (p : Int) := by omega
  clear h hM
  go_enter Tryz.func20, Tryz.ntmps20
  go_wp2
  refine bodyPost_ret (results_tmp2 rfl _ _ _) rfl ?_
  exact ⟨rfl, L⟩
theorem ne_of_fair (hF : FairT n l k) : l ≠ [] := fun e => by have := hF.pos; rw [e] at this; simp at this
set_option maxRecDepth 100000 in
set_option maxHeartbeats 8000000 in
theorem rset15_yes (h : RTr W g gl c n l) (hF : FairT n l k) (hk : k ≤ 6) (p : Nat) (hpl : p < l.length) (x : Lf) (hF2 : FairT n (l.set p x) k) :
    Calls Tryz.prog 20 #[.pointer (some ⟨g, 0, none⟩), .int .u64 p, x.val] W (fun e w' => Below W.heap.size W w' ∧ ∃ g' gl' d, e = .returned (.tuple #[.pointer (some ⟨g', 0, none⟩), .int .i64 0]) ∧ RTr w' g' gl' d n (l.set p x) ∧ W.heap.size ≤ g' ∧ W.heap.size ≤ gl') := by
  have hl64 : l.length ≤ 64 := by rw [hF.len]; exact Nat.le_trans (Nat.pow_le_pow_right (n := 2) (by decide) hk) (by decide)
  have hcopy := fun (u : World) hR => rcopy15 u (some ⟨gl, 0, none⟩) c l (ne_of_fair hF) (by omega) hR
  have cN := fun g2 c2 u hR => rnew15_fair n (some ⟨g2, 0, none⟩) c2 (l.set p x) u hF2 hk hR
  rw [List.length_set] at cN
  clear hF hF2
  obtain ⟨xp, xi, xs, xh, xl⟩ := x
  show Calls _ _ #[_, _, .agg (lfB xp xi xs xh xl)] _ _
  have L := chainA (Below.refl W.heap.size W) (.cells (lfB xp xi xs xh xl) 36)
  have K0 := (Has.start W).add 36 (lfB xp xi xs xh xl)
  have h1 := h.call L
  obtain ⟨t0, t1, tin⟩ := h1.cells
  obtain ⟨M, hM⟩ : ∃ M, l.length = M := ⟨_, rfl⟩
  rw [hM] at t1 hpl hcopy cN hl64
  have HM := hideIt hM
  have e1 : IntKind.u64.wrap (M : Int) = (M : Int) := by rw [IntKind.wrap_u64]; omega
  have e2 : ¬ (M : Int) ≤ (p : Int) := by omega
  have e3 : (p : Int) < (M : Int) := by omega
  clear hM
  go_enter Tryz.func20, Tryz.ntmps20
  go_upto_region 1 with fail
  change Code.wp _ _ _ _ (W.alloc (.cells (lfB xp xi xs xh xl) 36))
  obtain ⟨g5, hg5⟩ : ∃ g, W.heap.size = g := ⟨_, rfl⟩
  have HW := hg5
  rw [hg5] at K0 ⊢
  generalize W.alloc (.cells (lfB xp xi xs xh xl) 36) = W1 at *
  obtain ⟨g2, c2, w7, hrun, B7, hg2, b7, -⟩ := hcopy W1 h1.2.row
  have K7 := K0.call b7
  have h7 := h1.call b7
  obtain ⟨⟨x0, x1, x2, x3, x4⟩, -, xin⟩ := (K7.box 0).five0
  obtain ⟨zz, hzz, q0, q1, q2, q3, q4⟩ := lf_there B7 p (by rw [HM.out]; exact hpl)
  have f0 := B7.free (p * 5)
  have f1 := B7.free (p * 5 + 1)
  have f2 := B7.free (p * 5 + 2)
  have f3 := B7.free (p * 5 + 3)
  have f4 := B7.free (p * 5 + 4)
  have hin14 := B7.inside
  go_upto_region 5 with (first
    | (at_builtin; refine gen_run rfl _ _ _ rfl _ _ rfl rfl _ w7 hrun ?_)
    | fail)
  have B8 := lf_put B7 p ⟨xp, xi, xs, xh, xl⟩ (by rw [HM.out]; exact hpl)
  have O8 := putLf_off w7 g2 p ⟨xp, xi, xs, xh, xl⟩
  change Code.wp _ _ _ _ (putLf w7 g2 p ⟨xp, xi, xs, xh, xl⟩)
  have b18 : Below W1.heap.size W1 (putLf w7 g2 p ⟨xp, xi, xs, xh, xl⟩) := b7.trans (O8.below (fun i hi => by have : i = g2 := hi; omega) b7.size)
  generalize putLf w7 g2 p ⟨xp, xi, xs, xh, xl⟩ = W8 at *
  clear q0 q1 q2 q3 q4 f0 f1 f2 f3 f4 hin14 hzz x0 x1 x2 x3 x4 xin K7 h7 B7 O8 b7 hrun t0 t1 tin
  have K8 := K0.call b18
  have h8 := h1.call b18
  obtain ⟨t0, t1, tin⟩ := h8.cells
  go_wp2_with (first
    | (go_at_call 7; refine (cN g2 c2 _ B8.row).mono ?_; rintro e w9 ⟨b9, g', gl', d, rfl, h9, hg9, hgl9⟩)
    | fail)
  refine bodyPost_ret (results_tmp2 rfl _ _ _) rfl ?_
  have hsz := K8.size
  have hbb := chain K8.below b9
  have e1 : Below W.heap.size W w9 := by first | exact hbb | (rw [HW] at hbb; exact hbb) | (rw [← HW] at hbb; exact hbb)
  have e2 : W.heap.size ≤ g' := by omega
  have e3 : W.heap.size ≤ gl' := by omega
  first
    | exact ⟨e1, g', gl', d, rfl, h9, e2, e3⟩
    | exact ⟨e1, g', rfl, gl', ⟨d, h9⟩, e2, e3⟩
    | exact ⟨e1, g', rfl, gl', d, h9, e2, e3⟩
    | exact ⟨e1, g', gl', ⟨d, rfl, h9⟩, e2, e3⟩
set_option maxRecDepth 100000 in
set_option maxHeartbeats 8000000 in
theorem rset15_no (h : RTr W g gl c n l) (hF : FairT n l k) (hk : k ≤ 6) (p : Nat) (hpl : p < l.length) (x : Lf) (hx : x.fine15) (hs : x.id.size ≤ 1000000 ∧ x.salt.size ≤ 1000000) (hE : newE n (l.set p x) ≠ 0) :
    Calls Tryz.prog 20 #[.pointer (some ⟨g, 0, none⟩), .int .u64 p, x.val] W (Tells (.tuple #[.pointer (some ⟨g, 0, none⟩), .int .i64 (newE n (l.set p x))]) W.heap.size W) := by
  have hl64 : l.length ≤ 64 := by rw [hF.len]; exact Nat.le_trans (Nat.pow_le_pow_right (n := 2) (by decide) hk) (by decide)
  have hcopy := fun (u : World) hR => rcopy15 u (some ⟨gl, 0, none⟩) c l (ne_of_fair hF) (by omega) hR
  have cN := fun g2 c2 u hR => rnew15_err n (some ⟨g2, 0, none⟩) c2 (l.set p x) u (by rw [List.length_set]; omega) (fun z hz => by
      rcases List.mem_or_eq_of_mem_set hz with hz | rfl
      · have := mayT_sizes (hF.all z hz).1; omega
      · exact hs) (fun z hz => by
      rcases List.mem_or_eq_of_mem_set hz with hz | rfl
      · exact (hF.all z hz).2
      · exact hx.2) hE hR
  rw [List.length_set] at cN
  obtain ⟨E, hEE⟩ : ∃ E, newE n (l.set p x) = E := ⟨_, rfl⟩
  rw [hEE] at cN hE ⊢
  have q0' : (E != 0) = true := bne_iff_ne.2 hE
  clear hF hEE
  obtain ⟨xp, xi, xs, xh, xl⟩ := x
  show Calls _ _ #[_, _, .agg (lfB xp xi xs xh xl)] _ _
  have L := chainA (Below.refl W.heap.size W) (.cells (lfB xp xi xs xh xl) 36)
  have K0 := (Has.start W).add 36 (lfB xp xi xs xh xl)
  have h1 := h.call L
  obtain ⟨t0, t1, tin⟩ := h1.cells
  obtain ⟨M, hM⟩ : ∃ M, l.length = M := ⟨_, rfl⟩
  rw [hM] at t1 hpl hcopy cN hl64
  have HM := hideIt hM
  have e1 : IntKind.u64.wrap (M : Int) = (M : Int) := by rw [IntKind.wrap_u64]; omega
  have e2 : ¬ (M : Int) ≤ (p : Int) := by omega
  have e3 : (p : Int) < (M : Int) := by omega
  clear hM
  go_enter Tryz.func20, Tryz.ntmps20
  go_upto_region 1 with fail
  change Code.wp _ _ _ _ (W.alloc (.cells (lfB xp xi xs xh xl) 36))
  obtain ⟨g5, hg5⟩ : ∃ g, W.heap.size = g := ⟨_, rfl⟩
  have HW := hg5
  rw [hg5] at K0 ⊢
  generalize W.alloc (.cells (lfB xp xi xs xh xl) 36) = W1 at *
  obtain ⟨g2, c2, w7, hrun, B7, hg2, b7, -⟩ := hcopy W1 h1.2.row
  have K7 := K0.call b7
  have h7 := h1.call b7
  obtain ⟨⟨x0, x1, x2, x3, x4⟩, -, xin⟩ := (K7.box 0).five0
  obtain ⟨zz, hzz, q0, q1, q2, q3, q4⟩ := lf_there B7 p (by rw [HM.out]; exact hpl)
  have f0 := B7.free (p * 5)
  have f1 := B7.free (p * 5 + 1)
  have f2 := B7.free (p * 5 + 2)
  have f3 := B7.free (p * 5 + 3)
  have f4 := B7.free (p * 5 + 4)
  have hin14 := B7.inside
  go_upto_region 5 with (first
    | (at_builtin; refine gen_run rfl _ _ _ rfl _ _ rfl rfl _ w7 hrun ?_)
    | fail)
  have B8 := lf_put B7 p ⟨xp, xi, xs, xh, xl⟩ (by rw [HM.out]; exact hpl)
  have O8 := putLf_off w7 g2 p ⟨xp, xi, xs, xh, xl⟩
  change Code.wp _ _ _ _ (putLf w7 g2 p ⟨xp, xi, xs, xh, xl⟩)
  have b18 : Below W1.heap.size W1 (putLf w7 g2 p ⟨xp, xi, xs, xh, xl⟩) := b7.trans (O8.below (fun i hi => by have : i = g2 := hi; omega) b7.size)
  generalize putLf w7 g2 p ⟨xp, xi, xs, xh, xl⟩ = W8 at *
  clear q0 q1 q2 q3 q4 f0 f1 f2 f3 f4 hin14 hzz x0 x1 x2 x3 x4 xin K7 h7 B7 O8 b7 hrun t0 t1 tin
  have K8 := K0.call b18
  have h8 := h1.call b18
  obtain ⟨t0, t1, tin⟩ := h8.cells
  go_wp2_with (first
    | (go_at_call 7; refine (cN g2 c2 _ B8.row).mono ?_; rintro e w9 ⟨rfl, b9⟩)
    | fail)
  refine bodyPost_ret (results_tmp2 rfl _ _ _) rfl ?_
  have hbb := chain K8.below b9
  exact ⟨rfl, by first | exact hbb | (rw [HW] at hbb; exact hbb)⟩
end
end Go.Proofs.YtbhgcmdodjgpmaaGreatDoor
/-
  The law TreeBuilds: of any leaves, by any width, there is the tree that the chapter says, or its error: its root, all its nodes; they stay, and what is told is the caller's own. Conditions: none.
-/
namespace Go.Proofs.YtbhgcmdodjgpmaaGreatDoor
set_option linter.unusedVariables false
set_option linter.unusedSimpArgs false
set_option maxRecDepth 10000
open Go.ChangeShapes Go.WideShapes Go.ChangeAt Go.RowKit

/-- A copy of leaves, appended to none; of none, too. -/
theorem lf_copyR (w : World) (A : Option Addr) (c : Nat) (xs : List Lf) (hm : xs.length ≤ 1000000) (hR : lfS.Row w w.heap.size A xs) :
    ∃ A' c' w', (∀ ty, (Builtin.append_ #[22, 22] ty #[.slice (some ⟨w.heap.size, 0, none⟩) 0 0, .slice A xs.length c]).run Tryz.prog (w.alloc (.cells #[] 36)) = .ok (.slice A' xs.length c') w') ∧
      lfS.Row w' w'.heap.size A' xs ∧ Below w.heap.size w w' := by
  by_cases hne : xs = []
  · subst hne
    have L0 : Below w.heap.size w (w.alloc (.cells #[] 36)) := chainA (Below.refl _ _) _
    cases A with
    | none =>
      obtain ⟨i0, hi, hz0, hz1, hz2⟩ := info_parts infoT_lf
      exact ⟨some ⟨w.heap.size, 0, none⟩, 0, w.alloc (.cells #[] 36), fun ty => by simp [Builtin.append_, Builtin.lenOf, Builtin.firstCells, run_underlying Tryz.underlying22, sizeOf, typeInfo, hi, hz1, storeCells], Sh.Row.nil lfS _ _ _, L0⟩
    | some ad =>
      have own0 : (w.alloc (.cells #[] 36)).ownsRow w.heap.size 36 5 (.slice (some ⟨w.heap.size, 0, none⟩) 0 0) 0 (lfS.flat []) :=
        ⟨rfl, .inr ⟨w.heap.size, 0, #[], rfl, Nat.le_refl _, Box.made w 36 #[], Nat.le_refl _, Nat.zero_le _, rfl, rfl⟩⟩
      obtain ⟨v', w', hr, h2, h3, -⟩ := lfE.app (w.alloc (.cells #[] 36)) w.heap.size _ 0 [] own0 ad 0 c [] rfl ((hR.call L0).cells) (by omega) (by simp) (N := 0) (Nat.zero_add _)
      rw [List.nil_append] at h2
      obtain ⟨A2, c2, rfl, -, h5⟩ := Sh.own_row (S := lfS) h2
      exact ⟨A2, c2, w', hr, h5, L0.grown h3 (by simp) (fun j hj => by injection hj with hj; subst hj; exact Nat.le_refl _)⟩
  · obtain ⟨g, c', w', h1, h2, -, h3, -⟩ := rcopy15 w A c xs hne hm hR
    exact ⟨some ⟨g, 0, none⟩, c', w', h1, h2.row, h3⟩
theorem neq_rt_self (s : ByteArray) (h l : Int) (k : Nat) (u : World) : (binOp .neq 41 (.agg #[.string s, .int .u64 h, .int .u64 l, .int .i64 k]) (.agg #[.string s, .int .u64 h, .int .u64 l, .int .i64 k])).run Tryz.prog u = .ok (.bool false) u := by
  have h1 := run_neq_rt ⟨s, h, l, k⟩ ⟨s, h, l, k⟩ u
  have h2 : RtP.same ⟨s, h, l, k⟩ ⟨s, h, l, k⟩ = true := (RtP.same_iff _ _).2 rfl
  rw [h2] at h1
  exact h1
theorem neq_nd_self (x : Nd) (u : World) : (binOp .neq 46 x.val x.val).run Tryz.prog u = .ok (.bool false) u := by rw [run_neq_nd, Nd.same_self]; rfl
theorem eql_nd_self15 (x : Nd) (u : World) : (binOp .eql 46 x.val x.val).run Tryz.prog u = .ok (.bool true) u := by rw [run_eql_nd, Nd.same_self]
/-- A block that is written somewhere within. -/
def Wide5 (W : World) (g N : Nat) : Prop := ∃ cur : Array Value, Box W g 36 cur ∧ N * 5 ≤ cur.size
theorem Wide5.of {W : World} {g : Nat} {l : List Lf} (h : lfS.Blk W 36 g l) : Wide5 W g l.length := by
  obtain ⟨cur, rest, hb, he⟩ := h
  refine ⟨cur, hb, ?_⟩
  have := congrArg List.length he
  rw [List.length_append, lfS.flat_len, Array.length_toList] at this
  have e : l.length * lfS.k = l.length * 5 := rfl
  omega
theorem Wide5.there {W : World} {g N : Nat} (h : Wide5 W g N) (i : Nat) (hi : i < N) : (∃ v, W.cell? ⟨g, i * 5 + 1, none⟩ = some v) ∧ W.frozen? ⟨g, i * 5 + 1, none⟩ = false ∧ g < W.heap.size ∧ ∀ u, Wide5 (W.setCell ⟨g, i * 5 + 1, none⟩ u) g N := by
  obtain ⟨cur, hb, hs⟩ := h
  refine ⟨⟨cur[i * 5 + 1]'(by omega), by rw [hb.read, Array.getElem?_eq_getElem]⟩, hb.free _, hb.inside, fun u => ⟨_, hb.wrote (i * 5 + 1) u, by simpa using hs⟩⟩
theorem Wide5.call {W W' : World} {g N : Nat} (h : Wide5 W g N) (hb : Below W.heap.size W W') : Wide5 W' g N := by
  obtain ⟨cur, h1, h2⟩ := h
  exact ⟨cur, h1.call hb, h2⟩
set_option maxRecDepth 100000 in
set_option maxHeartbeats 8000000 in
theorem treeBuilds_no (n : Int) (A : Option Addr) (c : Nat) (l : List Lf) (lv : Int) (p : Int) (hc : l.length ≤ c) (hcm : c ≤ 9223372036854775807) (hs : ∀ x ∈ l, x.fine15) (hor : greatLf l = true ∨ newE n l ≠ 0)
    (w : World) (hR : lfS.Row w w.heap.size A l) (hK : Tab w) (hU : TabU w) :
    Calls Tryz.prog 3 #[.int .i64 n, .slice A l.length c, .int .i64 lv, .int .u64 p] w (Tells (.bool true) w.heap.size w) := by
  have cG := great15_any A c l (by omega) (fun x hx => (hs x hx).1) w hR
  cases hg : greatLf l with
  | true =>
    rw [hg] at cG
    clear hor hg
    go_enter Tryz.func3, Tryz.ntmps3
    go_wp2_with (first
      | (go_at_call 5; refine cG.mono ?_; rintro e w2 ⟨rfl, rfl⟩)
      | fail)
    go_ret
    exact ⟨rfl, Below.refl _ _⟩
  | false =>
    rw [hg] at cG hor
    obtain ⟨hl70, hsz⟩ := greatLf_no hg
    have hE : newE n l ≠ 0 := by
      rcases hor with h | h
      · cases h
      · exact h
    obtain ⟨A9, c9, w4, hrun, hR4, b4⟩ := lf_copyR w A c l (by omega) hR
    have c1 := fun u hR hT hV => new15_err n A9 c9 l u (by omega) (fun x hx => (hs x hx).1) (fun x hx => (hs x hx).2) hE hR hT hV
    have c2 := fun u hR => rnew15_err n A c l u (by omega) (fun x hx => ⟨by have := hsz x hx; omega, by have := hsz x hx; omega⟩) (fun x hx => (hs x hx).2) hE hR
    have c3 := fun u hR hQ => rsame15_any A9 A c9 c l l (by omega) (by omega) u hR hQ
    rw [decide_eq_true rfl] at c3
    generalize newE n l = E at *
    obtain ⟨N, hN⟩ : ∃ N, l.length = N := ⟨_, rfl⟩
    rw [hN] at cG c1 c2 c3 hrun ⊢
    have K4 := (Has.start w).call b4
    clear hor hg hN hsz hE
    go_enter Tryz.func3, Tryz.ntmps3
    go_wp2_with (first
      | (go_at_call 5; refine cG.mono ?_; rintro e w2 ⟨rfl, rfl⟩)
      | (at_builtin; refine gen_run rfl _ _ _ rfl _ _ rfl rfl _ w4 hrun ?_)
      | (go_at_call 6; refine (c1 _ hR4 (hK.call K4.below) (hU.call K4.below)).mono ?_; rintro e w5 ⟨rfl, b5⟩; have K5 := K4.call b5; have hR5 := hR4.on b5)
      | (go_at_call 7; refine (c2 _ (hR.on K5.below)).mono ?_; rintro e w6 ⟨rfl, b6⟩; have K6 := K5.call b6; have hR6 := hR5.on b6)
      | (go_at_call 8; refine (c3 _ hR6 (hR.on K6.below)).mono ?_; rintro e w7 ⟨rfl, b7⟩; have K7 := K6.call b7)
      | fail)
    go_ret
    exact ⟨rfl, K7.below⟩
end Go.Proofs.YtbhgcmdodjgpmaaGreatDoor
/-
  The law TreeBuilds, where there is a tree. Conditions: none.
-/
namespace Go.Proofs.YtbhgcmdodjgpmaaGreatDoor
set_option linter.unusedVariables false
set_option linter.unusedSimpArgs false
set_option maxRecDepth 10000
open Go.ChangeShapes Go.WideShapes Go.ChangeAt Go.RowKit

theorem Wide5.off {W W' : World} {F : Nat → Prop} {g N : Nat} (h : Wide5 W g N) (ho : Off F W W') (hn : ¬ F g) : Wide5 W' g N := by
  obtain ⟨cur, h1, h2⟩ := h
  exact ⟨cur, ho.box h1 hn, h2⟩
set_option maxRecDepth 100000 in
set_option maxHeartbeats 16000000 in
theorem treeBuilds_fair (n : Int) (A : Option Addr) (c : Nat) (l : List Lf) (lv : Int) (pl : Nat) (hpl : pl < 18446744073709551616) (hc : l.length ≤ c) (hcm : c ≤ 9223372036854775807) (hg : greatLf l = false) (k : Nat) (hF : FairT n l k)
    (w : World) (hR : lfS.Row w w.heap.size A l) (hK : Tab w) (hU : TabU w) :
    Calls Tryz.prog 3 #[.int .i64 n, .slice A l.length c, .int .i64 lv, .int .u64 pl] w (Tells (.bool true) w.heap.size w) := by
  obtain ⟨hl70, hsz⟩ := greatLf_no hg
  have hk : k ≤ 6 := by
    by_cases hk : k ≤ 6
    · exact hk
    · have h1 : 2 ^ 7 ≤ 2 ^ k := Nat.pow_le_pow_right (by decide) (by omega)
      rw [← hF.len] at h1
      omega
  have cG := great15_any A c l (by omega) (fun x hx => ⟨by have := hsz x hx; omega, by have := hsz x hx; omega⟩) w hR
  rw [hg] at cG
  obtain ⟨g9, c9, w4, hrun, B4, hg9, b4, -⟩ := rcopy15 w A c l (ne_of_fair hF) (by omega) hR
  have c1 := fun u hR hT hV => new15_fair n (some ⟨g9, 0, none⟩) c9 l u hF hR hT hV
  have c2 := fun u hR => rnew15_fair n A c l u hF hk hR
  have c3 := fun B d u hR hQ => rsame15_any B A d c l l (by omega) (by omega) u hR hQ
  rw [decide_eq_true rfl] at c3
  have cWd := fun u q (hu : TrAt u q n l k) => width15_any hu
  have cHt := fun u q (hu : TrAt u q n l k) => height15_any hu (by omega)
  have cRt := fun u q (hu : TrAt u q n l k) => root15_any hu hF
  have cLv := fun u q (hu : TrAt u q n l k) => leaves15_any hu hF
  have cRr := fun u g gl d (hu : RTr u g gl d n l) => rroot15_any hu hF hk
  have cRH := fun u => rheight15_any l.length (by omega) u
  rw [hF.len, ht_pow k hk, ← hF.len] at cRH
  have cLl := fun (m : Nat) (hm : m ≤ k) u g gl d (hu : RTr u g gl d n l) => rlevel15_any hu hF hk hm
  have cNd := fun (m : Nat) (hm : m ≤ k) (p : Nat) (hp : p < 18446744073709551616) u q (hu : TrAt u q n l k) => node15_in hu hF hm p hp
  have hboth : ∃ (X : Nd) (is : Bool), (∀ u q, TrAt u q n l k → Calls Tryz.prog 16 #[.pointer (some ⟨q.g, 0, none⟩), .int .i64 lv, .int .u64 pl] u (Tells (.tuple #[X.val, .bool is]) u.heap.size u)) ∧
      (∀ u g gl d, RTr u g gl d n l → Calls Tryz.prog 17 #[.pointer (some ⟨g, 0, none⟩), .int .i64 lv, .int .u64 pl] u (Tells (.tuple #[X.val, .bool is]) u.heap.size u)) := by
    by_cases hlv : 0 ≤ lv ∧ lv ≤ (k : Int)
    · obtain ⟨j, rfl⟩ := Int.eq_ofNat_of_zero_le hlv.1
      have hj : j ≤ k := by omega
      exact ⟨_, _, fun u q hu => node15_in hu hF hj pl hpl, fun u g gl d hu => rnode15_in hu hF hk hj pl hpl⟩
    · exact ⟨Nd.zero, false, fun u q hu => node15_out hu (by omega) lv pl hlv, fun u g gl d hu => rnode15_out hu hF hk lv pl hlv⟩
  obtain ⟨X, isX, cX1, cX2⟩ := hboth
  obtain ⟨N, hN⟩ : ∃ N, l.length = N := ⟨_, rfl⟩
  rw [hN] at cG c1 c2 c3 cLv cRH hrun hl70 ⊢
  have HN := hideIt hN
  have HF := hideIt hF
  have K4 := (Has.start w).call b4
  generalize hTT : topN n l k = T at *
  obtain ⟨ts, th, tl⟩ := T
  simp only [rootV] at cRt cRr
  have er := fun u => neq_rt_self ts th tl k u
  obtain ⟨Xs, Xh, Xl⟩ := X
  have ex := fun u => eql_nd_self15 ⟨Xs, Xh, Xl⟩ u
  simp only [Nd.val] at cX1 cX2 ex
  clear hg hN hF hTT hsz
  go_enter Tryz.func3, Tryz.ntmps3
  go_upto_region 10 with (first
    | (go_at_call 5; refine cG.mono ?_; rintro e w2 ⟨rfl, rfl⟩)
    | (at_builtin; refine gen_run rfl _ _ _ rfl _ _ rfl rfl _ w4 hrun ?_)
    | (go_at_call 6; refine (c1 _ B4.row (hK.call K4.below) (hU.call K4.below)).mono ?_; rintro e w5 ⟨b5, q, rfl, hT5, hq5⟩; have K5 := K4.call b5; have B5 := B4.call b5)
    | (go_at_call 7; refine (c2 _ (hR.on K5.below)).mono ?_; rintro e w6 ⟨b6, gr, grl, dr, rfl, hr6, hgr6, hgrl6⟩; have K6 := K5.call b6; have B6 := B5.call b6; have hT6 := hT5.call b6)
    | (go_at_call 8; refine (c3 _ _ _ B6.row (hR.on K6.below)).mono ?_; rintro e w7 ⟨rfl, b7⟩; have K7 := K6.call b7; have B7 := B6.call b7; have hT7 := hT6.call b7; have hr7 := hr6.call b7)
    | fail)
  have hlo : g9 < w4.heap.size := B4.inside
  have hw9 : w.heap.size ≤ g9 := hg9
  have hgrw : w4.heap.size ≤ gr := by have := b5.size; omega
  have hgrlw : w4.heap.size ≤ grl := by have := b5.size; omega
  have hV7 := Wide5.of B7
  rw [HN.out] at hV7
  clear K4 K5 K6 B4 B5 B6 hT5 hT6 b4 b5 b6 b7 hr6 cG c1 c2 hrun hg9 B7 hgr6 hgrl6
  go_wp2
  go_loopg [14] N (fun gk i wr => ∃ m : Nat, m ≤ N ∧ N - m ≤ gk ∧ i = .int .i64 m ∧ Wide5 wr g9 N ∧ Off (One g9) w7 wr)
  case atStart => exact ⟨0, Nat.zero_le _, by omega, rfl, hV7, Off.refl _ _⟩
  case round =>
    obtain ⟨m, hm, hgk, rfl, hV, hO⟩ := hrel
    have HG := hideIt hgk
    clear hgk hV7
    by_cases hlt : m < N
    · have hmi : (m : Int) < (N : Int) := by omega
      obtain ⟨⟨v0, e0⟩, f0, gin, hset⟩ := hV.there m hlt
      go_wp2
      go_roundg (N - (m + 1))
      case measure => have := HG.out; omega
      case rel => exact ⟨m + 1, by omega, Nat.le_refl _, by go_num, hset _, hO.set_ (p := ⟨g9, m * 5 + 1, none⟩) (Or.inl rfl) _⟩
    · have e : m = N := by omega
      subst e
      have hmi : ¬ (m : Int) < (m : Int) := by omega
      have hTr := hT7.off hq5 hO (fun b hb => Or.inl (by have : b = g9 := hb; omega))
      have hrr := hr7.off hO (show ¬ gr = g9 by omega) (show ¬ grl = g9 by omega)
      have hBw : Below w.heap.size w wr := K7.below.trans (hO.below (fun i hi => by have : i = g9 := hi; omega) K7.size)
      clear hT7 hr7 hV hO K7
      go_upto_region 15 with (first
        | (go_at_call 9; refine (cLv _ q hTr).mono ?_; rintro e w8 ⟨b8, g15, rfl, hg15, B8⟩)
        | fail)
      have K8 := (Has.start wr).call b8
      have hT8 := hTr.call b8
      have hr8 := hrr.call b8
      have hBw8 := chain hBw b8
      have hR8 := hR.on hBw8
      go_upto_region 17 with (first
        | (go_at_call 10; refine (cWd _ q hT8).mono ?_; rintro e w9 ⟨rfl, rfl⟩)
        | (go_at_call 11; refine (cHt _ q hT8).mono ?_; rintro e w9 ⟨rfl, rfl⟩)
        | (go_at_call 12; refine (cRH _).mono ?_; rintro e w9 ⟨rfl, rfl⟩)
        | (go_at_call 13; refine (cRt _ q hT8).mono ?_; rintro e w9 ⟨rfl, b9⟩)
        | (go_at_call 14; refine (cRr _ gr grl dr (hr8.call b9)).mono ?_; rintro e w10 ⟨rfl, b10⟩; have b810 := chain b9 b10)
        | (go_at_call 8; refine (c3 _ _ _ (B8.call b810).row (hR8.on b810)).mono ?_; rintro e w11 ⟨rfl, b11⟩; have b811 := chain b810 b11)
        | fail)
      have hT11 := hT8.call b811
      have hr11 := hr8.call b811
      have hBw11 := chain hBw8 b811
      have hqw := hTr.within_top hq5
      have hgr1 := hrr.1.inside
      have hgr2 := hrr.2.inside
      have hV11 := Wide5.of (B8.call b811)
      rw [HN.out] at hV11
      have hwr : w.heap.size ≤ g15 := Nat.le_trans hBw.size hg15
      clear hT8 hr8 hR8 hBw8 hTr hrr hBw B8 b8 b9 b10 b11 b810 b811 K8 cWd cRH cRt cRr er
      go_wp2
      go_loopg [16] m (fun gk i wr => ∃ p : Nat, p ≤ m ∧ m - p ≤ gk ∧ i = .int .i64 p ∧ Wide5 wr g15 m ∧ Off (One g15) w11 wr)
      case atStart => exact ⟨0, Nat.zero_le _, by omega, rfl, hV11, Off.refl _ _⟩
      case round =>
        rename World => w16
        obtain ⟨p, hp, hgk, rfl, hV, hO⟩ := hrel
        have HG := hideIt hgk
        clear hgk hV11
        by_cases hlt : p < m
        · have hpi : (p : Int) < (m : Int) := by omega
          obtain ⟨⟨v0, e0⟩, f0, gin, hset⟩ := hV.there p hlt
          go_wp2
          go_roundg (m - (p + 1))
          case measure => have := HG.out; omega
          case rel => exact ⟨p + 1, by omega, Nat.le_refl _, by go_num, hset _, hO.set_ (p := ⟨g15, p * 5 + 1, none⟩) (Or.inl rfl) _⟩
        · have e : p = m := by omega
          subst e
          have hT16 := hT11.off hqw hO (fun b hb => Or.inr (by have : b = g15 := hb; omega))
          have hr16 := hr11.off hO (show ¬ gr = g15 by omega) (show ¬ grl = g15 by omega)
          have hBw16 : Below w.heap.size w w16 := hBw11.trans (hO.below (fun i hi => by have : i = g15 := hi; omega) hBw11.size)
          clear hT11 hr11 hV hO hBw11
          go_upto_region 21 with fail
          go_wp2
          go_loopg [17] (k + 1) (fun gk i wr => ∃ m : Nat, m ≤ k + 1 ∧ k + 1 - m ≤ gk ∧ i = .int .i64 m ∧ Below w16.heap.size w16 wr)
          case atStart => exact ⟨0, Nat.zero_le _, by omega, rfl, Below.refl _ _⟩
          case round =>
            rename World => w17
            obtain ⟨m, hm, hgk, rfl, hb⟩ := hrel
            have HG2 := hideIt hgk
            clear hgk
            have hT17 := hT16.call hb
            have hr17 := hr16.call hb
            by_cases hlt : m ≤ k
            · have hmi : (m : Int) ≤ (k : Int) := by omega
              have cLm := cLl m hlt
              have cNm := cNd m hlt
              have hbk := fun (W' : World) v b hv => level_blk (W' := W') (v := v) (b := b) HF.out hlt hv
              have hul := HF.out.ulen hlt
              have hup2 := HF.out.up hlt
              have hM64 : 2 ^ (k - m) ≤ 64 := Nat.le_trans (Nat.pow_le_pow_right (n := 2) (by decide) (by omega : k - m ≤ 6)) (by decide)
              generalize upN n m (l.map (nodeOf n)) = us at *
              generalize 2 ^ (k - m) = M at *
              go_upto_region 24 with (first
                | (go_at_call 11; refine (cHt _ q hT17).mono ?_; rintro e w18 ⟨rfl, rfl⟩)
                | fail)
              go_upto_region 25 with (first
                | (go_at_call 15; refine (cLm _ gr grl dr hr17).mono ?_; rintro e w18 ⟨b18, v, rfl, o18⟩; obtain ⟨gw, cw, rfl, hgw, Bw⟩ := hbk _ _ _ o18)
                | fail)
              have hT18 := hT17.call b18
              have hb18 := chain hb b18
              clear hT17 hr17 hbk o18 cLm cLl cNd
              go_wp2
              go_loopg [19] (M + 1) (fun gk i wr => ∃ p : Nat, p ≤ M + 1 ∧ M + 1 - p ≤ gk ∧ i = .int .i64 p ∧ Below w18.heap.size w18 wr)
              case atStart => exact ⟨0, Nat.zero_le _, by omega, rfl, Below.refl _ _⟩
              case round =>
                rename World => w19
                obtain ⟨p, hp, hgk, rfl, hb19⟩ := hrel
                have HG3 := hideIt hgk
                clear hgk
                have hT19 := hT18.call hb19
                have Bw19 := Bw.call hb19
                by_cases hle : p ≤ M
                · have hpi : (p : Int) ≤ (M : Int) := by omega
                  have hpw : IntKind.u64.wrap (p : Int) = (p : Int) := by rw [IntKind.wrap_u64]; omega
                  have cNp := cNm p (by omega) w19 q hT19
                  have J0 := Has.start w19
                  by_cases hlt2 : p < M
                  · have hpi2 : (p : Int) < (M : Int) := by omega
                    obtain ⟨z, hz, -, -, -⟩ := nd_there Bw19 p (by omega)
                    have ez : ndAt us p = z := by rw [ndAt, List.getD_eq_getElem?_getD, hz]; rfl
                    rw [ez, decide_eq_true hlt2] at cNp
                    have en := fun u => neq_nd_self z u
                    have HZ := hideIt hz
                    obtain ⟨zs, zh, zl⟩ := z
                    simp only [Nd.val] at cNp en
                    clear hz ez
                    go_upto_region 29 with (first
                      | (go_at_call 16; refine cNp.mono ?_; rintro e w20 ⟨rfl, b20⟩; have J1 := (J0.call b20).add 46 (ndB zs zh zl))
                      | fail)
                    have Bw20 := (Bw19.call b20).call (chainA (Below.refl _ _) (.cells (ndB zs zh zl) 46))
                    obtain ⟨g20, hg20⟩ : ∃ g, w20.heap.size = g := ⟨_, rfl⟩
                    rw [hg20] at J1 ⊢
                    change Code.wp _ _ _ _ (w20.alloc (.cells (ndB zs zh zl) 46))
                    generalize w20.alloc (.cells (ndB zs zh zl) 46) = W20 at *
                    obtain ⟨y0, y1, y2, -, -, -, yin⟩ := (J1.box 0).three
                    obtain ⟨z', hz', q0, q1, q2⟩ := nd_there Bw20 p (by omega)
                    rw [HZ.out] at hz'
                    injection hz' with hz'
                    subst hz'
                    have hgin := Bw20.inside
                    simp only at q0 q1 q2
                    have hdt : decide ((p : Int) < (M : Int)) = true := decide_eq_true hpi2
                    go_quiet (fail)
                    go_wp2
                    go_roundg (M + 1 - (p + 1))
                    case measure => have := HG3.out; omega
                    case rel => exact ⟨p + 1, by omega, Nat.le_refl _, by go_num, chain hb19 (below_drewN J1.below _)⟩
                  · have ep : p = M := by omega
                    have hpi2 : ¬ (p : Int) < (M : Int) := by omega
                    obtain ⟨z, hzz⟩ : ∃ z, Nd.zero = z := ⟨_, rfl⟩
                    have ez : ndAt us p = z := by rw [← hzz, ndAt, List.getD_eq_getElem?_getD, List.getElem?_eq_none (by omega)]; rfl
                    rw [ez, decide_eq_false hlt2] at cNp
                    have en : ∀ u, (binOp .neq 46 z.val Nd.zero.val).run Tryz.prog u = .ok (.bool false) u := fun u => by rw [← hzz]; exact neq_nd_self Nd.zero u
                    have hzf : Nd.zero.val = .agg #[.string ⟨#[]⟩, .int .u64 0, .int .u64 0] := rfl
                    rw [hzf] at en
                    clear ez hzz hzf ep
                    obtain ⟨zs, zh, zl⟩ := z
                    simp only [Nd.val] at cNp en
                    go_upto_region 29 with (first
                      | (go_at_call 16; refine cNp.mono ?_; rintro e w20 ⟨rfl, b20⟩; have J1 := (J0.call b20).add 46 (ndB zs zh zl))
                      | fail)
                    obtain ⟨g20, hg20⟩ : ∃ g, w20.heap.size = g := ⟨_, rfl⟩
                    rw [hg20] at J1 ⊢
                    change Code.wp _ _ _ _ (w20.alloc (.cells (ndB zs zh zl) 46))
                    generalize w20.alloc (.cells (ndB zs zh zl) 46) = W20 at *
                    obtain ⟨y0, y1, y2, -, -, -, yin⟩ := (J1.box 0).three
                    have hdf : decide ((p : Int) < (M : Int)) = false := decide_eq_false (by omega)
                    go_quiet (fail)
                    go_wp2
                    go_roundg (M + 1 - (p + 1))
                    case measure => have := HG3.out; omega
                    case rel => exact ⟨p + 1, by omega, Nat.le_refl _, by go_num, chain hb19 (below_drewN J1.below _)⟩
                · have ep : p = M + 1 := by omega
                  subst ep
                  have hpi : ¬ (((M + 1 : Nat) : Int) ≤ (M : Int)) := by omega
                  have hpi2 : ¬ ((M : Int) + 1 ≤ (M : Int)) := by omega
                  go_wp2
                  go_roundg (k + 1 - (m + 1))
                  case measure => have := HG2.out; omega
                  case rel => exact ⟨m + 1, by omega, Nat.le_refl _, by go_num, chain hb18 hb19⟩
            · have e : m = k + 1 := by omega
              subst e
              have hmi : ¬ (((k + 1 : Nat) : Int) ≤ (k : Int)) := by omega
              have hmi2 : ¬ ((k : Int) + 1 ≤ (k : Int)) := by omega
              clear cLl cNd
              go_upto_region 32 with (first
                | (go_at_call 11; refine (cHt _ q hT17).mono ?_; rintro e w18 ⟨rfl, rfl⟩)
                | (go_at_call 16; refine (cX1 _ q hT17).mono ?_; rintro e w18 ⟨rfl, b18⟩)
                | fail)
              have L17 : Below w.heap.size w w17 := chain hBw16 hb
              have J1 := ((Has.start w17).call b18).add 46 (ndB Xs Xh Xl)
              obtain ⟨g22, hg22⟩ : ∃ g, w18.heap.size = g := ⟨_, rfl⟩
              rw [hg22] at J1 ⊢
              change Code.wp _ _ _ _ (w18.alloc (.cells (ndB Xs Xh Xl) 46))
              generalize w18.alloc (.cells (ndB Xs Xh Xl) 46) = W18 at *
              go_upto_region 33 with (first
                | (go_at_call 17; refine (cX2 _ gr grl dr (hr17.call J1.below)).mono ?_; rintro e w19 ⟨rfl, b19⟩; have J2 := (J1.call b19).add 46 (ndB Xs Xh Xl))
                | fail)
              obtain ⟨g24, hg24⟩ : ∃ g, w19.heap.size = g := ⟨_, rfl⟩
              rw [hg24] at J2 ⊢
              change Code.wp _ _ _ _ (w19.alloc (.cells (ndB Xs Xh Xl) 46))
              generalize w19.alloc (.cells (ndB Xs Xh Xl) 46) = W19 at *
              obtain ⟨y0, y1, y2, -, -, -, yin⟩ := (J2.box 0).three
              obtain ⟨z0, z1, z2, -, -, -, zin⟩ := (J2.box 1).three
              have L19 := chain L17 J2.below
              have hT19 := hT17.call J2.below
              have hR19 := hR.on L19
              go_wp2_with (first
                | (go_at_call 9; refine (cLv _ q hT19).mono ?_; rintro e w20 ⟨b20, g30, rfl, hg30, B30⟩)
                | (go_at_call 8; refine (c3 _ _ _ B30.row (hR19.on b20)).mono ?_; rintro e w21 ⟨rfl, b21⟩)
                | fail)
              go_ret
              exact ⟨rfl, chain (chain L19 b20) b21⟩
end Go.Proofs.YtbhgcmdodjgpmaaGreatDoor
