/- Several of my texts, laid as one. -/
import Derived.Test.YthindbmgnkohhaaDoorU11Imp
import Derived.Test.YthindbmgnkohhaaDoorS10Same
import Derived.Test.YthindbmgnkohhaaDoorU10Write
import Derived.Test.YthindbmgnkohhaaDoorU1Sum
import Derived.Test.YthindbmgnkohhaaDoorD10Writ
/-
  The statements' refused and awake, walked: the chapter's examples.
-/
namespace Go.Proofs.YthindbmgnkohhaaDoor
set_option linter.unusedVariables false
set_option linter.unusedSimpArgs false
set_option maxRecDepth 10000
open Go.RowKit Go.Lib Go.Sort

set_option maxRecDepth 100000 in
set_option maxHeartbeats 2000000 in
theorem refused11_any (s : ByteArray) (hs : s.size ≤ 65536) (h : Nat) (hh : h ≤ 10) (n E : Nat) (hE : ¬ E = 0) (hp : (impF (2 ^ h) [] 0 (splitL s.data.toList)).2 = (n, E)) (w : World) (hT : TabU w) :
    Calls Tryd.prog 32 #[.string s, .int .i64 (h : Int), .int .i64 (n : Int), .int .i64 (E : Int)] w (Tells (.bool true) w.heap.size w) := by
  have cI := fun u hu => import_any s hs h hh u hu
  obtain ⟨R, hR⟩ : ∃ R, impF (2 ^ h) [] 0 (splitL s.data.toList) = R := ⟨_, rfl⟩
  rw [hR] at cI hp
  obtain ⟨R1, R2, R3⟩ := R
  simp only [Prod.mk.injEq] at hp
  obtain ⟨rfl, rfl⟩ := hp
  have HE := hideIt hE
  clear hR hE
  go_enter Tryd.func32, Tryd.ntmps32
  go_upto_region 2 with (first
    | (go_at_call 8; refine (cI _ hT).mono ?_; rintro e w1 ⟨v1, rfl, j1, V1⟩)
    | fail)
  rcases V1 with ⟨h1, -⟩ | ⟨-, rfl⟩
  · exact absurd h1 HE.out
  · go_wp2
    go_ret
    exact ⟨rfl, j1⟩
set_option maxRecDepth 100000 in
set_option maxHeartbeats 2000000 in
theorem refused11_height (s : ByteArray) (h : Int) (hh : ¬ (0 ≤ h ∧ h ≤ 10)) (w : World) :
    Calls Tryd.prog 32 #[.string s, .int .i64 h, .int .i64 0, .int .i64 120] w (Tells (.bool true) w.heap.size w) := by
  have cI := fun u => import_height s h hh u
  go_enter Tryd.func32, Tryd.ntmps32
  go_wp2_with (first
    | (go_at_call 8; refine (cI _).mono ?_; rintro e w1 ⟨rfl, j1⟩)
    | fail)
  go_ret
  exact ⟨rfl, j1⟩
theorem rw_eq {z : Rw} {l : List UInt8} {h k : Int} (a : z.id.data.toList = l) (b : z.h = h) (c : z.l = k) : z = ⟨bA l, h, k⟩ := by
  obtain ⟨i, x, y⟩ := z
  subst b c a
  congr 1
theorem a11_two : impF (2 ^ 1) [] 0 (splitL [98, 32, 50, 10, 97, 32, 49]) = ([⟨bA [98], 0, 2⟩, ⟨bA [97], 0, 1⟩], 0, 0) := by
  have h1 : splitL [98, 32, 50, 10, 97, 32, 49] = [[98, 32, 50], [97, 32, 49]] := by decide +kernel
  have t1 : (tell [98, 32, 50]).2 = (true, 0) := by decide +kernel
  have t2 : (tell [97, 32, 49]).2 = (true, 0) := by decide +kernel
  have r1 : (tell [98, 32, 50]).1 = ⟨bA [98], 0, 2⟩ := rw_eq (by decide +kernel) (by decide +kernel) (by decide +kernel)
  have r2 : (tell [97, 32, 49]).1 = ⟨bA [97], 0, 1⟩ := rw_eq (by decide +kernel) (by decide +kernel) (by decide +kernel)
  have p1 : putL (2 ^ 1) [] ⟨bA [98], 0, 2⟩ = 0 := by decide +kernel
  have p2 : putL (2 ^ 1) [⟨bA [98], 0, 2⟩] ⟨bA [97], 0, 1⟩ = 0 := by decide +kernel
  rw [h1]
  rw [impF_on (by unfold lineE; rw [t1, r1]; simp [p1])]
  have e1 : lineR [] [98, 32, 50] = [⟨bA [98], 0, 2⟩] := by unfold lineR; rw [t1, r1]; rfl
  rw [e1, impF_on (by unfold lineE; rw [t2, r2]; simp [p2])]
  have e2 : lineR [⟨bA [98], 0, 2⟩] [97, 32, 49] = [⟨bA [98], 0, 2⟩, ⟨bA [97], 0, 1⟩] := by unfold lineR; rw [t2, r2]; rfl
  rw [e2]
  rfl
theorem sd_two : Sd [⟨bA [98], 0, 2⟩, ⟨bA [97], 0, 1⟩] [⟨bA [97], 0, 1⟩, ⟨bA [98], 0, 2⟩] := by
  have hlt : LR ⟨bA [97], 0, 1⟩ ⟨bA [98], 0, 2⟩ := by
    unfold LR
    decide +kernel
  refine ⟨?_, fun k => ?_⟩
  · exact List.pairwise_pair.2 (LR_asymm hlt)
  · exact fil_turn k [⟨bA [98], 0, 2⟩] [⟨bA [97], 0, 1⟩] (fun x hx y hy => by
      rw [List.mem_singleton.1 hx, List.mem_singleton.1 hy]
      exact hlt)
theorem a11_rows0 : (impF (2 ^ 0) [] 0 (splitL [98, 32, 50, 10, 97, 32, 49])).2 = (2, 111) := by decide +kernel
theorem a11_twice9 : (impF (2 ^ 9) [] 0 (splitL [98, 32, 50, 10, 97, 32, 49, 10, 97, 32, 51])).2 = (3, 110) := by decide +kernel
theorem a11_rows1 : (impF (2 ^ 1) [] 0 (splitL [98, 32, 50, 10, 97, 32, 49, 10, 97, 32, 51])).2 = (3, 111) := by decide +kernel
theorem a11_total : (impF (2 ^ 5) [] 0 (splitL [97, 32, 51, 52, 48, 50, 56, 50, 51, 54, 54, 57, 50, 48, 57, 51, 56, 52, 54, 51, 52, 54, 51, 51, 55, 52, 54, 48, 55, 52, 51, 49, 55, 54, 56, 50, 49, 49, 52, 53, 53, 10, 98, 32, 49])).2 = (2, 112) := by decide +kernel
theorem a11_row : (impF (2 ^ 5) [] 0 (splitL [35, 10, 97])).2 = (2, 100) := by decide +kernel
theorem two_row {w : World} {g : Nat} (h : Box w g 50 #[.string ⟨#[97]⟩, .int .u64 0, .int .u64 1, .string ⟨#[98]⟩, .int .u64 0, .int .u64 2]) : RwRow w w.heap.size (some ⟨g, 0, none⟩) [⟨bA [97], 0, 1⟩, ⟨bA [98], 0, 2⟩] := by
  have hb : RowBox w g #[⟨bA [97], 0, 1⟩, ⟨bA [98], 0, 2⟩] := h
  exact hb.row
set_option maxRecDepth 100000 in
set_option maxHeartbeats 8000000 in
theorem awake11_any (w : World) (hT : TabU w) : Calls Tryd.prog 11 #[] w (Tells (.bool true) w.heap.size w) := by
  have c1 : ∀ u, TabU u → Calls Tryd.prog 8 #[.string ⟨#[98, 32, 50, 10, 97, 32, 49]⟩, .int .i64 1] u fun e w' => ∃ v, e = .returned (.tuple #[v, .int .i64 0, .int .i64 0]) ∧ Below u.heap.size u w' ∧ ImpV w' v ([⟨bA [98], 0, 2⟩, ⟨bA [97], 0, 1⟩], 0, 0) := fun u hu => by
    have h := import_any ⟨#[98, 32, 50, 10, 97, 32, 49]⟩ (by decide) 1 (by decide) u hu
    rw [show (⟨#[98, 32, 50, 10, 97, 32, 49]⟩ : ByteArray).data.toList = [98, 32, 50, 10, 97, 32, 49] from rfl, a11_two] at h
    exact h
  have c2 : ∀ u, TabU u → Calls Tryd.prog 32 #[.string ⟨#[98, 32, 50, 10, 97, 32, 49]⟩, .int .i64 0, .int .i64 2, .int .i64 111] u (Tells (.bool true) u.heap.size u) := fun u hu => refused11_any ⟨#[98, 32, 50, 10, 97, 32, 49]⟩ (by decide) 0 (by decide) 2 111 (by decide) a11_rows0 u hu
  have c3 : ∀ u, TabU u → Calls Tryd.prog 32 #[.string ⟨#[98, 32, 50, 10, 97, 32, 49, 10, 97, 32, 51]⟩, .int .i64 9, .int .i64 3, .int .i64 110] u (Tells (.bool true) u.heap.size u) := fun u hu => refused11_any ⟨#[98, 32, 50, 10, 97, 32, 49, 10, 97, 32, 51]⟩ (by decide) 9 (by decide) 3 110 (by decide) a11_twice9 u hu
  have c4 : ∀ u, TabU u → Calls Tryd.prog 32 #[.string ⟨#[98, 32, 50, 10, 97, 32, 49, 10, 97, 32, 51]⟩, .int .i64 1, .int .i64 3, .int .i64 111] u (Tells (.bool true) u.heap.size u) := fun u hu => refused11_any ⟨#[98, 32, 50, 10, 97, 32, 49, 10, 97, 32, 51]⟩ (by decide) 1 (by decide) 3 111 (by decide) a11_rows1 u hu
  have c5 : ∀ u, TabU u → Calls Tryd.prog 32 #[.string ⟨#[97, 32, 51, 52, 48, 50, 56, 50, 51, 54, 54, 57, 50, 48, 57, 51, 56, 52, 54, 51, 52, 54, 51, 51, 55, 52, 54, 48, 55, 52, 51, 49, 55, 54, 56, 50, 49, 49, 52, 53, 53, 10, 98, 32, 49]⟩, .int .i64 5, .int .i64 2, .int .i64 112] u (Tells (.bool true) u.heap.size u) := fun u hu => refused11_any ⟨#[97, 32, 51, 52, 48, 50, 56, 50, 51, 54, 54, 57, 50, 48, 57, 51, 56, 52, 54, 51, 52, 54, 51, 51, 55, 52, 54, 48, 55, 52, 51, 49, 55, 54, 56, 50, 49, 49, 52, 53, 53, 10, 98, 32, 49]⟩ (by decide) 5 (by decide) 2 112 (by decide) a11_total u hu
  have c6 := fun u => refused11_height ⟨#[97]⟩ 11 (by decide) u
  have c7 : ∀ u, TabU u → Calls Tryd.prog 32 #[.string ⟨#[35, 10, 97]⟩, .int .i64 5, .int .i64 2, .int .i64 100] u (Tells (.bool true) u.heap.size u) := fun u hu => refused11_any ⟨#[35, 10, 97]⟩ (by decide) 5 (by decide) 2 100 (by decide) a11_row u hu
  go_enter Tryd.func11, Tryd.ntmps11
  go_upto_region 2 with (first
    | (go_at_call 8; refine (c1 _ hT).mono ?_; rintro e w1 ⟨v1, rfl, j1, V1⟩)
    | fail)
  rcases V1 with ⟨-, ys, S1⟩ | ⟨h1, -⟩
  · obtain rfl := S1.1.same sd_two
    obtain ⟨A1, rfl, R1⟩ := S1.row
    have cS : ∀ (u : World) (X : Option Addr), RwRow u u.heap.size A1 [⟨bA [97], 0, 1⟩, ⟨bA [98], 0, 2⟩] → RwRow u u.heap.size X [⟨bA [97], 0, 1⟩, ⟨bA [98], 0, 2⟩] → Calls Tryd.prog 10 #[.slice A1 2 2, .slice X 2 2] u (Tells (.bool true) u.heap.size u) :=
      fun u X h1 h2 => rsame_any A1 X 2 2 [⟨bA [97], 0, 1⟩, ⟨bA [98], 0, 2⟩] (by decide) u h1 h2
    have hR1 : ∀ u, Below w1.heap.size w1 u → RwRow u u.heap.size A1 [⟨bA [97], 0, 1⟩, ⟨bA [98], 0, 2⟩] := fun u hu => (R1.call hu).more hu.size
    have tok : ∀ u, Below w1.heap.size w1 u → TabU u := fun u hu => hT.call (chain j1 hu)
    have cO1 := fun u => of_any 1 u
    have cO2 := fun u => of_any 2 u
    simp only [List.length_cons, List.length_nil]
    clear S1 R1 c1
    go_wp2_with (first
      | (go_at_call_of 31 (Value.int .u64 1); refine (cO1 _).mono ?_; rintro e w2 ⟨rfl, j2⟩)
      | (go_at_call_of 31 (Value.int .u64 2); refine (cO2 _).mono ?_; rintro e w3 ⟨rfl, j3⟩; have j23 := chain j2 j3)
      | (go_at_call 10; refine (cS _ (some ⟨_, 0, none⟩) (hR1 _ (chainA j23 _)) (two_row (Box.made _ _ _))).mono ?_; rintro e w4 ⟨rfl, j4⟩; have k4 := chain (chainA j23 (.cells #[.string ⟨#[97]⟩, .int .u64 0, .int .u64 1, .string ⟨#[98]⟩, .int .u64 0, .int .u64 2] 50)) j4)
      | (go_at_call_of 32 (Value.int .i64 0); (with_reducible refine (c2 _ (tok _ k4)).mono ?_); rintro e w5 ⟨rfl, j5⟩; have k5 := chain k4 j5)
      | (go_at_call_of 32 (Value.int .i64 9); (with_reducible refine (c3 _ (tok _ k5)).mono ?_); rintro e w6 ⟨rfl, j6⟩; have k6 := chain k5 j6)
      | (go_at_call_of 32 (Value.int .i64 1); (with_reducible refine (c4 _ (tok _ k6)).mono ?_); rintro e w7 ⟨rfl, j7⟩; have k7 := chain k6 j7)
      | (go_at_call_of 32 (Value.int .i64 112); (with_reducible refine (c5 _ (tok _ k7)).mono ?_); rintro e w8 ⟨rfl, j8⟩; have k8 := chain k7 j8)
      | (go_at_call_of 32 (Value.int .i64 120); (with_reducible refine (c6 _).mono ?_); rintro e w9 ⟨rfl, j9⟩; have k9 := chain k8 j9)
      | (go_at_call_of 32 (Value.int .i64 100); (with_reducible refine (c7 _ (tok _ k9)).mono ?_); rintro e w10 ⟨rfl, j10⟩; have k10 := chain k9 j10)
      | fail)
    go_ret
    exact ⟨rfl, chain j1 k10⟩
  · exact absurd rfl h1
end Go.Proofs.YthindbmgnkohhaaDoor
/-
  ledger.Check, Total and Export, walked.
-/
namespace Go.Proofs.YthindbmgnkohhaaDoor
set_option linter.unusedVariables false
set_option linter.unusedSimpArgs false
set_option maxRecDepth 10000
open Go.RowKit Go.Sort

theorem chkF_id {most : Nat} {acc : List Rw} {n : Nat} {x : Rw} {r : List Rw} (h : isId (keyR x) = false) : chkF most acc n (x :: r) = (n + 1, 101) := by rw [chkF, if_pos h]
theorem chkF_on {most : Nat} {acc : List Rw} {n : Nat} {x : Rw} {r : List Rw} (h : isId (keyR x) = true) (hp : putL most acc x = 0) : chkF most acc n (x :: r) = chkF most (acc ++ [x]) (n + 1) r := by rw [chkF, if_neg (by rw [h]; decide), if_pos hp]
theorem chkF_off {most : Nat} {acc : List Rw} {n : Nat} {x : Rw} {r : List Rw} (h : isId (keyR x) = true) (hp : ¬ putL most acc x = 0) : chkF most acc n (x :: r) = (n + 1, putL most acc x) := by rw [chkF, if_neg (by rw [h]; decide), if_neg hp]
set_option maxRecDepth 100000 in
set_option maxHeartbeats 2000000 in
theorem check_height (A : Option Addr) (c : Nat) (n : Nat) (h : Int) (hh : ¬ (0 ≤ h ∧ h ≤ 10)) (w : World) : Calls Tryd.prog 15 #[.slice A n c, .int .i64 h] w (Tells (.tuple #[.int .i64 0, .int .i64 120]) w.heap.size w) := by
  have cM := fun u => mayHeight_any h u
  rw [decide_eq_false hh] at cM
  go_enter Tryd.func15, Tryd.ntmps15
  go_wp2_with (first
    | (go_at_call 23; refine (cM _).mono ?_; rintro e w1 ⟨rfl, rfl⟩)
    | fail)
  refine bodyPost_ret (results_tmp2 rfl _ _ _) rfl ?_
  exact ⟨rfl, Below.refl _ _⟩
set_option maxRecDepth 100000 in
set_option maxHeartbeats 8000000 in
theorem lcheck_any (A : Option Addr) (c : Nat) (xs : List Rw) (hm : xs.length ≤ 1000000) (hx : ∀ x ∈ xs, x.ok) (hz : ∀ x ∈ xs, x.id.size ≤ 1000000) (h : Nat) (hh : h ≤ 10) (w : World) (hT : TabU w) (hR : RwRow w w.heap.size A xs) :
    Calls Tryd.prog 15 #[.slice A xs.length c, .int .i64 (h : Int)] w (Tells (.tuple #[.int .i64 ((chkF (2 ^ h) [] 0 xs).1 : Int), .int .i64 ((chkF (2 ^ h) [] 0 xs).2 : Int)]) w.heap.size w) := by
  have cM := fun u => mayHeight_any (h : Int) u
  rw [decide_eq_true (show 0 ≤ (h : Int) ∧ (h : Int) ≤ 10 by omega)] at cM
  have cJ := fun u => judge_any h u
  obtain ⟨R, hRR⟩ : ∃ R, chkF (2 ^ h) [] 0 xs = R := ⟨_, rfl⟩
  rw [hRR]
  have HR := hideIt hRR
  clear hRR
  obtain ⟨n, hn⟩ : ∃ n, xs.length = n := ⟨_, rfl⟩
  rw [hn] at hm ⊢
  have HLN := hideIt hn
  clear hn
  go_enter Tryd.func15, Tryd.ntmps15
  go_upto_region 4 with (first
    | (go_at_call 23; refine (cM _).mono ?_; rintro e w1 ⟨rfl, rfl⟩)
    | (go_at_call 24; refine (cJ _).mono ?_; rintro e w1 ⟨ga, rfl, J1, j1⟩)
    | fail)
  clear cM cJ
  go_wp2
  go_loopg [18] n (fun gk i wr => ∃ k : Nat, k ≤ n ∧ n - k ≤ gk ∧ i = .int .i64 (k : Int) ∧ Hid (chkF (2 ^ h) (xs.take k) k (xs.drop k) = R) ∧ Hid (GoodL (2 ^ h) (xs.take k)) ∧ Judge wr w.heap.size h (xs.take k) ga ∧ Below w.heap.size w wr)
  case atStart => exact ⟨0, Nat.zero_le _, Nat.le_refl _, rfl, HR, good_nil _, J1, j1⟩
  case round =>
    obtain ⟨k, hkn, hgk, rfl, HI, HG, J, L⟩ := hrel
    have HGK := hideIt hgk
    clear hgk J1 j1
    by_cases hlt : k < n
    · have hlti : (k : Int) < (n : Int) := by omega
      obtain ⟨x, hx1⟩ : ∃ x, xs[k]? = some x := ⟨_, List.getElem?_eq_getElem (by have := HLN.out; omega)⟩
      obtain ⟨ad, rfl, had, p0, p1, p2⟩ := (hR.call L) k x hx1
      have p3 : (ad.add (k * 3)).block < wr.heap.size := by rw [o10_block]; exact Nat.lt_of_lt_of_le had L.size
      have hxo := hx x (List.mem_of_getElem? hx1)
      have hxz := hz x (List.mem_of_getElem? hx1)
      have hdrop : xs.drop k = x :: xs.drop (k + 1) := by
        obtain ⟨hl, he⟩ := List.getElem?_eq_some_iff.1 hx1
        rw [← he, List.getElem_cons_drop]
      have HI2 := HI.out
      rw [hdrop] at HI2
      have HI3 := hideIt HI2
      have HTK := hideIt (take_succ_at hx1)
      clear hdrop HI2 hx1
      have B1 := Box.made wr 50 #[.string x.id, .int .u64 x.h, .int .u64 x.l]
      have J := J.call (chainA (Below.refl _ _) (.cells #[.string x.id, .int .u64 x.h, .int .u64 x.l] 50))
      have L := chainA L (.cells #[.string x.id, .int .u64 x.h, .int .u64 x.l] 50)
      go_upto_region 7 with fail
      generalize wr.alloc (.cells #[.string x.id, .int .u64 x.h, .int .u64 x.l] 50) = W1 at *
      obtain ⟨q0, q1, q2, f0, f1, f2, hin⟩ := B1.three
      have hLs := L.size
      have cX := fun u hu => rowtext_any x hxo (by omega) u hu
      have wk : IntKind.i64.wrap ((k : Int) + 1) = ((k + 1 : Nat) : Int) := by rw [IntKind.wrap_i64]; omega
      cases hid : isId (keyR x) with
      | false =>
        have e0 : tolR x = (⟨#[]⟩, 101) := by unfold tolR; rw [show isId x.id.data.toList = false from hid]; rfl
        rw [e0] at cX
        have e1 := HI3.out
        rw [chkF_id hid] at e1
        have HE := hideIt e1
        simp only [Rw.val] at cX
        clear e0 e1 hid
        go_wp2_with (first
          | (go_at_call 37; refine (cX _ (hT.call L)).mono ?_; rintro e w3 ⟨rfl, j3⟩)
          | fail)
        refine bodyPost_ret (results_tmp2 rfl _ _ _) rfl ?_
        exact ⟨by rw [← HE.out]; rfl, L.trans (j3.mono hLs)⟩
      | true =>
        obtain ⟨T, hT1⟩ : ∃ T, (tolR x).1 = T := ⟨_, rfl⟩
        have e0 : (tolR x).2 = 0 := by unfold tolR; rw [show isId x.id.data.toList = true from hid]; rfl
        rw [hT1, e0] at cX
        have HID := hideIt hid
        clear e0 hT1 hid
        simp only [Rw.val] at cX
        go_upto_region 8 with (first
          | (go_at_call 37; refine (cX _ (hT.call L)).mono ?_; rintro e w3 ⟨rfl, j3⟩)
          | fail)
        have J := J.call j3
        have B3 := B1.call j3
        have L := L.trans (j3.mono hLs)
        have hLs := L.size
        obtain ⟨q0, q1, q2, f0, f1, f2, hin⟩ := B3.three
        obtain ⟨S, hS, cC⟩ := judge_call x hxo (by omega) w.heap.size h hh (xs.take k) ga HG.out w3 J
        obtain ⟨V, hV⟩ : ∃ V, putL (2 ^ h) (xs.take k) x = V := ⟨_, rfl⟩
        rw [hV] at cC
        simp only [Rw.val] at cC
        have HV := hideIt hV
        have HS := hideIt hS
        clear hV hS cX
        go_upto_region 10 with (first
          | (go_at_call 48; refine cC.mono ?_; rintro e w5 ⟨rfl, k5, J5⟩)
          | fail)
        have L5 := L.trans (k5.below (fun i hi => (HS.out i hi).1) hLs)
        by_cases hV0 : V = 0
        · have J5 := J5 hV0
          have HV0 := hideIt hV0
          have hvi : (V : Int) = 0 := by omega
          rw [hvi]
          clear hV0 hvi cC
          go_wp2
          go_roundg (n - (k + 1))
          case measure => have := HGK.out; omega
          case rel =>
            have hp : putL (2 ^ h) (xs.take k) x = 0 := HV.out.trans HV0.out
            have e1 := HI3.out
            rw [chkF_on HID.out hp, ← HTK.out] at e1
            have hg := HG.out.snoc hp
            rw [← HTK.out] at hg J5
            exact ⟨k + 1, by omega, Nat.le_refl _, by go_num, e1, hg, J5, L5⟩
        · have HV0 := hideIt hV0
          have hvi : ¬ ((V : Int) = 0) := by omega
          have hvb : ((V : Int) == 0) = false := beq_false_of_ne hvi
          clear hV0 cC J5
          go_wp2
          refine bodyPost_ret (results_tmp2 rfl _ _ _) rfl ?_
          have e1 := HI3.out
          rw [chkF_off HID.out (by rw [HV.out]; exact HV0.out), HV.out] at e1
          exact ⟨by rw [← e1]; rfl, L5⟩
    · have e : k = n := by omega
      subst e
      go_wp2
      refine bodyPost_ret (results_tmp2 rfl _ _ _) rfl ?_
      have e := HI.out
      rw [List.drop_eq_nil_of_le (by have := HLN.out; omega)] at e
      rw [← e]
      exact ⟨rfl, L⟩
theorem remOk_nil : remOk [] = true := by decide +kernel
theorem allId_perm {xs ys : List Rw} (h : Sd xs ys) : allId ys = allId xs := by
  rw [Bool.eq_iff_iff]
  unfold allId
  rw [List.all_eq_true, List.all_eq_true]
  have hp := h.2
  exact ⟨fun k x hx => k x (by rw [mem_fil, hp, ← mem_fil]; exact hx), fun k x hx => k x (by rw [mem_fil, ← hp, ← mem_fil]; exact hx)⟩
set_option maxRecDepth 100000 in
set_option maxHeartbeats 2000000 in
theorem export_any (A : Option Addr) (c : Nat) (xs ys : List Rw) (hs : Sd xs ys) (hm : xs.length ≤ 200) (hx : ∀ x ∈ xs, x.ok) (hz : ∀ x ∈ xs, x.id.size ≤ 200) (w : World) (hT : TabU w) (hR : RwRow w w.heap.size A xs) :
    Calls Tryd.prog 16 #[.slice A xs.length c] w (Tells (.tuple #[.string (wrR ys []).1, .int .i64 (wrR ys []).2]) w.heap.size w) := by
  have hyo : ∀ y ∈ ys, y.ok := fun y hy => hx y (by rw [mem_fil, ← hs.2, ← mem_fil]; exact hy)
  have hyz := hs.ids hz
  have hlen : ∀ zs : List Rw, Sd xs zs → zs.length = xs.length → ys.length = xs.length := fun zs h1 h2 => by rw [← h1.same hs, h2]
  have hwr : ys.length ≤ 200 → (rowsT ys).length ≤ 1000000 := fun h => by
    have a := rowsT_len ys 200 hyo hyz
    have b : ys.length * (200 + 41) ≤ 200 * 241 := Nat.mul_le_mul h (by omega)
    omega
  obtain ⟨n, hn⟩ : ∃ n, xs.length = n := ⟨_, rfl⟩
  have cS : Calls Tryd.prog 17 #[.slice A xs.length c] w fun e w' => ∃ A1, e = .returned (.slice A1 n n) ∧ RwRow w' w'.heap.size A1 ys ∧ ys.length = n ∧ Below w.heap.size w w' :=
    (rowsort3_any A c xs (by omega) (fun x h => by have := hz x h; omega) w hR).mono fun e w' h => by
      obtain ⟨v, zs, h1, h2, h3⟩ := h
      have e1 := h2.2.1
      have e2 := h2.1.same hs
      obtain ⟨A1, h4, h5⟩ := h2.row
      subst e2
      exact ⟨A1, by rw [h1, h4, e1, hn], h5, by rw [e1, hn], h3⟩
  have cW : ∀ (A1 : Option Addr) (u : World), ys.length = n → RwRow u u.heap.size A1 ys → TabU u → Calls Tryd.prog 38 #[.slice A1 n n, .string ⟨#[]⟩] u (Tells (.tuple #[.string (wrR ys []).1, .int .i64 (wrR ys []).2]) u.heap.size u) := fun A1 u h1 h2 h3 => by
    have h := rowwrite_any A1 n ys ⟨#[]⟩ (by omega) hyo (fun x h => by have := hyz x h; omega) (hwr (by omega)) (by decide) u h2 h3
    rw [h1] at h
    exact h
  obtain ⟨R, hRR⟩ : ∃ R, wrR ys [] = R := ⟨_, rfl⟩
  rw [hRR] at cW ⊢
  rw [hn] at cS ⊢
  clear hRR hn hwr hlen hyz hyo hs
  go_enter Tryd.func16, Tryd.ntmps16
  go_wp2_with (first
    | (go_at_call 17; refine cS.mono ?_; rintro e w1 ⟨A1, rfl, R1, l1, j1⟩)
    | (go_at_call 38; refine (cW A1 _ l1 R1 (hT.call j1)).mono ?_; rintro e w2 ⟨rfl, j2⟩)
    | fail)
  refine bodyPost_ret (results_tmp2 rfl _ _ _) rfl ?_
  exact ⟨rfl, chain j1 j2⟩
end Go.Proofs.YthindbmgnkohhaaDoor
