/-
  The statements' refused and awake, walked: the chapter's examples.
-/
import Derived.Test.YthindbmgnkohhaaDoorU11Imp
import Derived.Test.YthindbmgnkohhaaDoorS10Same
namespace Go.Proofs.YthindbmgnkohhaaDoor
set_option linter.unusedVariables false
set_option linter.unusedSimpArgs false
set_option maxRecDepth 10000
open Go.RowKit Go.Lib Go.Sort

set_option maxRecDepth 100000 in
set_option maxHeartbeats 2000000 in
theorem refused11_any (s : ByteArray) (hs : s.size ≤ 65536) (h : Nat) (hh : h ≤ 10) (n E : Nat) (hE : ¬ E = 0) (hp : (impF (2 ^ h) [] 0 (splitL s.data.toList)).2 = (n, E)) (w : World) (hT : TabU w) :
    Calls Tryd.prog 32 #[.string s, .int .i64 (h : Int), .int .i64 (n : Int), .int .i64 (E : Int)] w (Tells (.bool true) w.heap.size w) := by
  have cI := fun u hu => import_any s hs h hh u hu
  obtain ⟨R, hR⟩ : ∃ R, impF (2 ^ h) [] 0 (splitL s.data.toList) = R := ⟨_, rfl⟩
  rw [hR] at cI hp
  obtain ⟨R1, R2, R3⟩ := R
  simp only [Prod.mk.injEq] at hp
  obtain ⟨rfl, rfl⟩ := hp
  have HE := hideIt hE
  clear hR hE
  go_enter Tryd.func32, Tryd.ntmps32
  go_upto_region 2 with (first
    | (go_at_call 8; refine (cI _ hT).mono ?_; rintro e w1 ⟨v1, rfl, j1, V1⟩)
    | fail)
  rcases V1 with ⟨h1, -⟩ | ⟨-, rfl⟩
  · exact absurd h1 HE.out
  · go_wp2
    go_ret
    exact ⟨rfl, j1⟩
set_option maxRecDepth 100000 in
set_option maxHeartbeats 2000000 in
theorem refused11_height (s : ByteArray) (h : Int) (hh : ¬ (0 ≤ h ∧ h ≤ 10)) (w : World) :
    Calls Tryd.prog 32 #[.string s, .int .i64 h, .int .i64 0, .int .i64 120] w (Tells (.bool true) w.heap.size w) := by
  have cI := fun u => import_height s h hh u
  go_enter Tryd.func32, Tryd.ntmps32
  go_wp2_with (first
    | (go_at_call 8; refine (cI _).mono ?_; rintro e w1 ⟨rfl, j1⟩)
    | fail)
  go_ret
  exact ⟨rfl, j1⟩
theorem rw_eq {z : Rw} {l : List UInt8} {h k : Int} (a : z.id.data.toList = l) (b : z.h = h) (c : z.l = k) : z = ⟨bA l, h, k⟩ := by
  obtain ⟨i, x, y⟩ := z
  subst b c a
  congr 1
theorem a11_two : impF (2 ^ 1) [] 0 (splitL [98, 32, 50, 10, 97, 32, 49]) = ([⟨bA [98], 0, 2⟩, ⟨bA [97], 0, 1⟩], 0, 0) := by
  have h1 : splitL [98, 32, 50, 10, 97, 32, 49] = [[98, 32, 50], [97, 32, 49]] := by decide +kernel
  have t1 : (tell [98, 32, 50]).2 = (true, 0) := by decide +kernel
  have t2 : (tell [97, 32, 49]).2 = (true, 0) := by decide +kernel
  have r1 : (tell [98, 32, 50]).1 = ⟨bA [98], 0, 2⟩ := rw_eq (by decide +kernel) (by decide +kernel) (by decide +kernel)
  have r2 : (tell [97, 32, 49]).1 = ⟨bA [97], 0, 1⟩ := rw_eq (by decide +kernel) (by decide +kernel) (by decide +kernel)
  have p1 : putL (2 ^ 1) [] ⟨bA [98], 0, 2⟩ = 0 := by decide +kernel
  have p2 : putL (2 ^ 1) [⟨bA [98], 0, 2⟩] ⟨bA [97], 0, 1⟩ = 0 := by decide +kernel
  rw [h1]
  rw [impF_on (by unfold lineE; rw [t1, r1]; simp [p1])]
  have e1 : lineR [] [98, 32, 50] = [⟨bA [98], 0, 2⟩] := by unfold lineR; rw [t1, r1]; rfl
  rw [e1, impF_on (by unfold lineE; rw [t2, r2]; simp [p2])]
  have e2 : lineR [⟨bA [98], 0, 2⟩] [97, 32, 49] = [⟨bA [98], 0, 2⟩, ⟨bA [97], 0, 1⟩] := by unfold lineR; rw [t2, r2]; rfl
  rw [e2]
  rfl
theorem sd_two : Sd [⟨bA [98], 0, 2⟩, ⟨bA [97], 0, 1⟩] [⟨bA [97], 0, 1⟩, ⟨bA [98], 0, 2⟩] := by
  have hlt : LR ⟨bA [97], 0, 1⟩ ⟨bA [98], 0, 2⟩ := by
    unfold LR
    decide +kernel
  refine ⟨?_, fun k => ?_⟩
  · exact List.pairwise_pair.2 (LR_asymm hlt)
  · exact fil_turn k [⟨bA [98], 0, 2⟩] [⟨bA [97], 0, 1⟩] (fun x hx y hy => by
      rw [List.mem_singleton.1 hx, List.mem_singleton.1 hy]
      exact hlt)
theorem a11_rows0 : (impF (2 ^ 0) [] 0 (splitL [98, 32, 50, 10, 97, 32, 49])).2 = (2, 111) := by decide +kernel
theorem a11_twice9 : (impF (2 ^ 9) [] 0 (splitL [98, 32, 50, 10, 97, 32, 49, 10, 97, 32, 51])).2 = (3, 110) := by decide +kernel
theorem a11_rows1 : (impF (2 ^ 1) [] 0 (splitL [98, 32, 50, 10, 97, 32, 49, 10, 97, 32, 51])).2 = (3, 111) := by decide +kernel
theorem a11_total : (impF (2 ^ 5) [] 0 (splitL [97, 32, 51, 52, 48, 50, 56, 50, 51, 54, 54, 57, 50, 48, 57, 51, 56, 52, 54, 51, 52, 54, 51, 51, 55, 52, 54, 48, 55, 52, 51, 49, 55, 54, 56, 50, 49, 49, 52, 53, 53, 10, 98, 32, 49])).2 = (2, 112) := by decide +kernel
theorem a11_row : (impF (2 ^ 5) [] 0 (splitL [35, 10, 97])).2 = (2, 100) := by decide +kernel
theorem two_row {w : World} {g : Nat} (h : Box w g 50 #[.string ⟨#[97]⟩, .int .u64 0, .int .u64 1, .string ⟨#[98]⟩, .int .u64 0, .int .u64 2]) : RwRow w w.heap.size (some ⟨g, 0, none⟩) [⟨bA [97], 0, 1⟩, ⟨bA [98], 0, 2⟩] := by
  have hb : RowBox w g #[⟨bA [97], 0, 1⟩, ⟨bA [98], 0, 2⟩] := h
  exact hb.row
set_option maxRecDepth 100000 in
set_option maxHeartbeats 8000000 in
theorem awake11_any (w : World) (hT : TabU w) : Calls Tryd.prog 11 #[] w (Tells (.bool true) w.heap.size w) := by
  have c1 : ∀ u, TabU u → Calls Tryd.prog 8 #[.string ⟨#[98, 32, 50, 10, 97, 32, 49]⟩, .int .i64 1] u fun e w' => ∃ v, e = .returned (.tuple #[v, .int .i64 0, .int .i64 0]) ∧ Below u.heap.size u w' ∧ ImpV w' v ([⟨bA [98], 0, 2⟩, ⟨bA [97], 0, 1⟩], 0, 0) := fun u hu => by
    have h := import_any ⟨#[98, 32, 50, 10, 97, 32, 49]⟩ (by decide) 1 (by decide) u hu
    rw [show (⟨#[98, 32, 50, 10, 97, 32, 49]⟩ : ByteArray).data.toList = [98, 32, 50, 10, 97, 32, 49] from rfl, a11_two] at h
    exact h
  have c2 : ∀ u, TabU u → Calls Tryd.prog 32 #[.string ⟨#[98, 32, 50, 10, 97, 32, 49]⟩, .int .i64 0, .int .i64 2, .int .i64 111] u (Tells (.bool true) u.heap.size u) := fun u hu => refused11_any ⟨#[98, 32, 50, 10, 97, 32, 49]⟩ (by decide) 0 (by decide) 2 111 (by decide) a11_rows0 u hu
  have c3 : ∀ u, TabU u → Calls Tryd.prog 32 #[.string ⟨#[98, 32, 50, 10, 97, 32, 49, 10, 97, 32, 51]⟩, .int .i64 9, .int .i64 3, .int .i64 110] u (Tells (.bool true) u.heap.size u) := fun u hu => refused11_any ⟨#[98, 32, 50, 10, 97, 32, 49, 10, 97, 32, 51]⟩ (by decide) 9 (by decide) 3 110 (by decide) a11_twice9 u hu
  have c4 : ∀ u, TabU u → Calls Tryd.prog 32 #[.string ⟨#[98, 32, 50, 10, 97, 32, 49, 10, 97, 32, 51]⟩, .int .i64 1, .int .i64 3, .int .i64 111] u (Tells (.bool true) u.heap.size u) := fun u hu => refused11_any ⟨#[98, 32, 50, 10, 97, 32, 49, 10, 97, 32, 51]⟩ (by decide) 1 (by decide) 3 111 (by decide) a11_rows1 u hu
  have c5 : ∀ u, TabU u → Calls Tryd.prog 32 #[.string ⟨#[97, 32, 51, 52, 48, 50, 56, 50, 51, 54, 54, 57, 50, 48, 57, 51, 56, 52, 54, 51, 52, 54, 51, 51, 55, 52, 54, 48, 55, 52, 51, 49, 55, 54, 56, 50, 49, 49, 52, 53, 53, 10, 98, 32, 49]⟩, .int .i64 5, .int .i64 2, .int .i64 112] u (Tells (.bool true) u.heap.size u) := fun u hu => refused11_any ⟨#[97, 32, 51, 52, 48, 50, 56, 50, 51, 54, 54, 57, 50, 48, 57, 51, 56, 52, 54, 51, 52, 54, 51, 51, 55, 52, 54, 48, 55, 52, 51, 49, 55, 54, 56, 50, 49, 49, 52, 53, 53, 10, 98, 32, 49]⟩ (by decide) 5 (by decide) 2 112 (by decide) a11_total u hu
  have c6 := fun u => refused11_height ⟨#[97]⟩ 11 (by decide) u
  have c7 : ∀ u, TabU u → Calls Tryd.prog 32 #[.string ⟨#[35, 10, 97]⟩, .int .i64 5, .int .i64 2, .int .i64 100] u (Tells (.bool true) u.heap.size u) := fun u hu => refused11_any ⟨#[35, 10, 97]⟩ (by decide) 5 (by decide) 2 100 (by decide) a11_row u hu
  go_enter Tryd.func11, Tryd.ntmps11
  go_upto_region 2 with (first
    | (go_at_call 8; refine (c1 _ hT).mono ?_; rintro e w1 ⟨v1, rfl, j1, V1⟩)
    | fail)
  rcases V1 with ⟨-, ys, S1⟩ | ⟨h1, -⟩
  · obtain rfl := S1.1.same sd_two
    obtain ⟨A1, rfl, R1⟩ := S1.row
    have cS : ∀ (u : World) (X : Option Addr), RwRow u u.heap.size A1 [⟨bA [97], 0, 1⟩, ⟨bA [98], 0, 2⟩] → RwRow u u.heap.size X [⟨bA [97], 0, 1⟩, ⟨bA [98], 0, 2⟩] → Calls Tryd.prog 10 #[.slice A1 2 2, .slice X 2 2] u (Tells (.bool true) u.heap.size u) :=
      fun u X h1 h2 => rsame_any A1 X 2 2 [⟨bA [97], 0, 1⟩, ⟨bA [98], 0, 2⟩] (by decide) u h1 h2
    have hR1 : ∀ u, Below w1.heap.size w1 u → RwRow u u.heap.size A1 [⟨bA [97], 0, 1⟩, ⟨bA [98], 0, 2⟩] := fun u hu => (R1.call hu).more hu.size
    have tok : ∀ u, Below w1.heap.size w1 u → TabU u := fun u hu => hT.call (chain j1 hu)
    have cO1 := fun u => of_any 1 u
    have cO2 := fun u => of_any 2 u
    simp only [List.length_cons, List.length_nil]
    clear S1 R1 c1
    go_wp2_with (first
      | (go_at_call_of 31 (Value.int .u64 1); refine (cO1 _).mono ?_; rintro e w2 ⟨rfl, j2⟩)
      | (go_at_call_of 31 (Value.int .u64 2); refine (cO2 _).mono ?_; rintro e w3 ⟨rfl, j3⟩; have j23 := chain j2 j3)
      | (go_at_call 10; refine (cS _ (some ⟨_, 0, none⟩) (hR1 _ (chainA j23 _)) (two_row (Box.made _ _ _))).mono ?_; rintro e w4 ⟨rfl, j4⟩; have k4 := chain (chainA j23 (.cells #[.string ⟨#[97]⟩, .int .u64 0, .int .u64 1, .string ⟨#[98]⟩, .int .u64 0, .int .u64 2] 50)) j4)
      | (go_at_call_of 32 (Value.int .i64 0); (with_reducible refine (c2 _ (tok _ k4)).mono ?_); rintro e w5 ⟨rfl, j5⟩; have k5 := chain k4 j5)
      | (go_at_call_of 32 (Value.int .i64 9); (with_reducible refine (c3 _ (tok _ k5)).mono ?_); rintro e w6 ⟨rfl, j6⟩; have k6 := chain k5 j6)
      | (go_at_call_of 32 (Value.int .i64 1); (with_reducible refine (c4 _ (tok _ k6)).mono ?_); rintro e w7 ⟨rfl, j7⟩; have k7 := chain k6 j7)
      | (go_at_call_of 32 (Value.int .i64 112); (with_reducible refine (c5 _ (tok _ k7)).mono ?_); rintro e w8 ⟨rfl, j8⟩; have k8 := chain k7 j8)
      | (go_at_call_of 32 (Value.int .i64 120); (with_reducible refine (c6 _).mono ?_); rintro e w9 ⟨rfl, j9⟩; have k9 := chain k8 j9)
      | (go_at_call_of 32 (Value.int .i64 100); (with_reducible refine (c7 _ (tok _ k9)).mono ?_); rintro e w10 ⟨rfl, j10⟩; have k10 := chain k9 j10)
      | fail)
    go_ret
    exact ⟨rfl, chain j1 k10⟩
  · exact absurd rfl h1
end Go.Proofs.YthindbmgnkohhaaDoor
