/-
  The law LedgerBack: a ledger's rows, exported, are imported as they are, whatever order they had. Conditions: none.
-/
import Derived.Test.YthindbmgnkohhaaDoorU11Awake
import Derived.Test.YthindbmgnkohhaaDoorU11Chk
import Derived.Test.YthindbmgnkohhaaDoorD11Laws
import Derived.Test.YthindbmgnkohhaaDoorW10Laid
import Derived.ChangeMaps
namespace Go.Proofs.YthindbmgnkohhaaDoor
set_option linter.unusedVariables false
set_option linter.unusedSimpArgs false
set_option maxRecDepth 10000
open Go.ChangeShapes Go.WideShapes Go.ChangeAt Go.RowKit Go.Sort

set_option maxRecDepth 100000 in
set_option maxHeartbeats 2000000 in
theorem lback_long (A : Option Addr) (c : Nat) (xs : List Rw) (h : Int) (hm : xs.length ≤ 9223372036854775807) (hl : longR xs = true) (w : World) (hR : RwRow w w.heap.size A xs) (hT : TabU w) :
    Calls Tryd.prog 5 #[.slice A xs.length c, .int .i64 h] w (Tells (.bool true) w.heap.size w) := by
  have cA := fun u hu => awake11_any u hu
  have cL := fun u hu => longR_any A c xs hm u hu
  rw [hl] at cL
  go_enter Tryd.func5, Tryd.ntmps5
  go_wp2_with (first
    | (go_at_call 11; refine (cA _ hT).mono ?_; rintro e w1 ⟨rfl, j1⟩; have hR1 := (hR.call j1).more j1.size)
    | (go_at_call 14; refine (cL _ hR1).mono ?_; rintro e w2 ⟨rfl, rfl⟩)
    | fail)
  go_ret
  exact ⟨rfl, j1⟩
set_option maxRecDepth 100000 in
set_option maxHeartbeats 2000000 in
theorem lback_height (A : Option Addr) (c : Nat) (xs ys : List Rw) (h : Int) (hh : ¬ (0 ≤ h ∧ h ≤ 10)) (hl : longR xs = false) (hm : xs.length ≤ 200) (hx : ∀ x ∈ xs, x.ok) (hz : ∀ x ∈ xs, x.id.size ≤ 200) (hs : Sd xs ys) (w : World) (hR : RwRow w w.heap.size A xs) (hT : TabU w) :
    Calls Tryd.prog 5 #[.slice A xs.length c, .int .i64 h] w (Tells (.bool true) w.heap.size w) := by
  have cA := fun u hu => awake11_any u hu
  have cL := fun u hu => longR_any A c xs (by omega) u hu
  rw [hl] at cL
  have cE := fun u hu hv => export_any A c xs ys hs hm hx hz u hu hv
  obtain ⟨T, hT1⟩ : ∃ T, (wrR ys []).1 = T := ⟨_, rfl⟩
  obtain ⟨E, hE1⟩ : ∃ E, (wrR ys []).2 = E := ⟨_, rfl⟩
  rw [hT1, hE1] at cE
  have cC := fun u => check_height A c xs.length h hh u
  clear hT1 hE1
  go_enter Tryd.func5, Tryd.ntmps5
  go_wp2_with (first
    | (go_at_call 11; refine (cA _ hT).mono ?_; rintro e w1 ⟨rfl, j1⟩; have hR1 := (hR.call j1).more j1.size)
    | (go_at_call 14; refine (cL _ hR1).mono ?_; rintro e w2 ⟨rfl, rfl⟩)
    | (go_at_call 15; refine (cC _).mono ?_; rintro e w3 ⟨rfl, j3⟩; have hR3 := (hR1.call j3).more j3.size)
    | (go_at_call 16; refine (cE _ (hT.call (chain j1 j3)) hR3).mono ?_; rintro e w4 ⟨rfl, j4⟩)
    | fail)
  go_ret
  exact ⟨rfl, chain (chain j1 j3) j4⟩
set_option maxRecDepth 100000 in
set_option maxHeartbeats 4000000 in
theorem lback_short (A : Option Addr) (c : Nat) (xs ys : List Rw) (h : Nat) (hh : h ≤ 10) (hl : longR xs = false) (hm : xs.length ≤ 200) (hx : ∀ x ∈ xs, x.ok) (hz : ∀ x ∈ xs, x.id.size ≤ 200) (hs : Sd xs ys) (w : World) (hR : RwRow w w.heap.size A xs) (hT : TabU w) :
    Calls Tryd.prog 5 #[.slice A xs.length c, .int .i64 (h : Int)] w (Tells (.bool true) w.heap.size w) := by
  have cA := fun u hu => awake11_any u hu
  have cL := fun u hu => longR_any A c xs (by omega) u hu
  rw [hl] at cL
  have cE := fun u hu hv => export_any A c xs ys hs hm hx hz u hu hv
  obtain ⟨T, hT1⟩ : ∃ T, (wrR ys []).1 = T := ⟨_, rfl⟩
  obtain ⟨E, hE1⟩ : ∃ E, (wrR ys []).2 = E := ⟨_, rfl⟩
  rw [hT1, hE1] at cE
  have cC := fun u hu hv => lcheck_any A c xs (by omega) hx (fun x k => by have := hz x k; omega) h hh u hu hv
  rcases chkF_spec (2 ^ h) xs [] 0 (good_nil _) with ⟨h1, h2, h3⟩ | ⟨k, F, h1, h2, h3, h4⟩
  · rw [h1] at cC
    rw [List.nil_append] at h2
    have hyo : ∀ y ∈ ys, y.ok := fun y hy => hx y (by rw [mem_fil, ← hs.2, ← mem_fil]; exact hy)
    have hyi : ∀ y ∈ ys, isId (keyR y) = true := fun y hy => h3 y (by rw [mem_fil, ← hs.2, ← mem_fil]; exact hy)
    have hyz := hs.ids hz
    have hyl : ys.length ≤ 200 := by rw [← hs.perm.length_eq]; exact hm
    have e0 : wrR ys [] = (bA (rowsT ys), 0) := by
      unfold wrR
      rw [show allId ys = true from List.all_eq_true.2 hyi, if_pos rfl, remOk_nil, if_pos rfl]
      rfl
    have hTS : T.data.toList = rowsT ys := by rw [← hT1, e0]; simp [bA]
    have hTz : T.size ≤ 65536 := by
      rw [Lib.size_eq, hTS]
      have a := rowsT_len ys 200 hyo hyz
      have b : ys.length * (200 + 41) ≤ 200 * 241 := Nat.mul_le_mul hyl (by omega)
      omega
    have hE0 : E = 0 := by rw [← hE1, e0]
    have HT2 := hideIt hT1
    have HE2 := hideIt (hE1.trans hE0)
    have cI := fun u hu => import_any T hTz h hh u hu
    rw [hTS, imp_rows hyo hyi (h2.perm hs.perm)] at cI
    rw [hE0] at cE
    have cS := fun u hu => rowsort3_any A c xs (by omega) (fun x k => by have := hz x k; omega) u hu
    have HS := hideIt hs
    have HYO := hideIt hyo
    have HYZ := hideIt hyz
    have HYL := hideIt hyl
    have heq : (T.toList == T.toList) = true := beq_self_eq_true _
    clear hTS hTz hE0 h1 h2 h3 e0 hT1 hE1 hyo hyi hyz hyl
    obtain ⟨n, hn⟩ : ∃ n, xs.length = n := ⟨_, rfl⟩
    rw [hn] at cL cC cE cS ⊢
    clear hn
    go_enter Tryd.func5, Tryd.ntmps5
    go_upto_region 10 with (first
      | (go_at_call 11; refine (cA _ hT).mono ?_; rintro e w1 ⟨rfl, j1⟩; have hR1 := (hR.call j1).more j1.size)
      | (go_at_call 14; refine (cL _ hR1).mono ?_; rintro e w2 ⟨rfl, rfl⟩)
      | (go_at_call 15; refine (cC _ (hT.call j1) hR1).mono ?_; rintro e w3 ⟨rfl, j3⟩; have hR3 := (hR1.call j3).more j3.size)
      | (go_at_call 16; refine (cE _ (hT.call (chain j1 j3)) hR3).mono ?_; rintro e w4 ⟨rfl, j4⟩; have hR4 := (hR3.call j4).more j4.size; have j14 := chain (chain j1 j3) j4)
      | (go_at_call 8; refine (cI _ (hT.call j14)).mono ?_; rintro e w5 ⟨v5, rfl, j5, V5⟩; have hR5 := (hR4.call j5).more j5.size)
      | fail)
    rcases V5 with ⟨-, zs, S5⟩ | ⟨h1, -⟩
    · obtain rfl := S5.1.same HS.out.self
      have hlz := HYL.out
      obtain ⟨A5, rfl, R5⟩ := S5.row
      have J5 := chain j14 j5
      have cX := fun u hu hv => export_any A5 zs.length zs zs HS.out.self HYL.out HYO.out HYZ.out u hu hv
      obtain ⟨N, hN⟩ : ∃ N, zs.length = N := ⟨_, rfl⟩
      have cQ := fun X d u hu hv => rsame_any A5 X N d zs (by omega) u hu hv
      have cS2 : ∀ u, RwRow u u.heap.size A xs → Calls Tryd.prog 17 #[.slice A n c] u fun e w' => ∃ A6, e = .returned (.slice A6 N N) ∧ RwRow w' w'.heap.size A6 zs ∧ Below u.heap.size u w' := fun u hu =>
        (cS u hu).mono fun e w' k => by
          obtain ⟨v, qs, k1, k2, k3⟩ := k
          have e2 := k2.1.same HS.out
          subst e2
          obtain ⟨A6, k4, k5⟩ := k2.row
          exact ⟨A6, by rw [k1, k4, hN], k5, k3⟩
      rw [hN] at cX cQ ⊢
      have h20 := HT2.out
      have h21 := HE2.out
      rw [h20, h21] at cX
      clear h20 h21
      clear cS cA cL cC cE cI S5 hN
      go_wp2_with (first
        | (go_at_call 17; refine (cS2 _ hR5).mono ?_; rintro e w6 ⟨A6, rfl, R6, j6⟩; have R56 := (R5.call j6).more j6.size; have J6 := chain J5 j6)
        | (go_at_call 10; refine (cQ _ _ _ R56 R6).mono ?_; rintro e w7 ⟨rfl, j7⟩; have R57 := (R56.call j7).more j7.size; have J7 := chain J6 j7)
        | (go_at_call 16; refine (cX _ (hT.call J7) R57).mono ?_; rintro e w8 ⟨rfl, j8⟩)
        | fail)
      go_ret
      exact ⟨rfl, chain J7 j8⟩
    · exact absurd rfl h1
  · rw [h1] at cC
    obtain ⟨n, hn⟩ : ∃ n, xs.length = n := ⟨_, rfl⟩
    rw [hn] at cL cC cE h2 ⊢
    have q1 : ((0 + k + 1 : Nat) : Int) ≤ (n : Int) := by omega
    have q2 : (((0 + k + 1 : Nat) : Int) == 0) = false := beq_false_of_ne (by omega)
    have q3 : ¬ (((0 + k + 1 : Nat) : Int) = 0) := by omega
    have q4 : ((F : Int) == 120) = false := beq_false_of_ne (by omega)
    have q5 : ¬ ((F : Int) = 120) := by omega
    have q6 : ((F : Int) == 0) = false := beq_false_of_ne (by omega)
    have q7 : ¬ ((F : Int) = 0) := by omega
    generalize ((0 + k + 1 : Nat) : Int) = K at *
    generalize (F : Int) = FF at *
    clear h1 h2 h3 h4 hT1 hE1 hn
    go_enter Tryd.func5, Tryd.ntmps5
    go_wp2_with (first
      | (go_at_call 11; refine (cA _ hT).mono ?_; rintro e w1 ⟨rfl, j1⟩; have hR1 := (hR.call j1).more j1.size)
      | (go_at_call 14; refine (cL _ hR1).mono ?_; rintro e w2 ⟨rfl, rfl⟩)
      | (go_at_call 15; refine (cC _ (hT.call j1) hR1).mono ?_; rintro e w3 ⟨rfl, j3⟩; have hR3 := (hR1.call j3).more j3.size)
      | (go_at_call 16; refine (cE _ (hT.call (chain j1 j3)) hR3).mono ?_; rintro e w4 ⟨rfl, j4⟩)
      | fail)
    go_ret
    exact ⟨rfl, chain (chain j1 j3) j4⟩
theorem ledgerBack_core (H : Type) (enc : TypeId × Value → H) (W : World) (base : Nat) (args : Array Value) (ds gs : List (DataW H)) (before : List MemPlace)
    (hval : ∀ (j : Nat) t v, Tryd.f5.params[j]? = some t → args[j]? = some v → Value.okWide Tryd.prog W .any base t v)
    (hW : DataW.Whole enc Tryd.prog Tryd.f5.params.toList Rows.ledgerBackSpec.vars false W args.toList ds gs before) (hT : TabU W) :
    gs = [] ∧ ds.length = 2 ∧ Calls Tryd.prog 5 args W (Tells (.bool true) W.heap.size W) := by
  obtain ⟨p, q, hA, hV, -, -, -⟩ := hW
  obtain ⟨rfl, rfl⟩ := trodVars_none hV
  have hA : DataW.TrodAll enc Tryd.prog W 0 (fun _ => true) true Tryd.f5.params.toList args.toList ds p := hA
  rw [Tryd.params5] at hA hval
  obtain ⟨v0, vs0, d0, ds0, p0, ps0, e0, rfl, -, h0, hA⟩ := trodAll_cons hA
  obtain ⟨v1, vs1, d1, ds1, p1, ps1, rfl, rfl, -, h1, hA⟩ := trodAll_cons hA
  obtain ⟨rfl, rfl, rfl⟩ := trodAll_nil hA
  obtain rfl : args = #[v0, v1] := Array.ext' e0
  obtain ⟨A, c, xs, rfl, x1, -, -, x2, x3⟩ := open_rows (hval 0 23 v0 rfl rfl) h0
  obtain ⟨h, rfl⟩ := okWide_int Tryd.underlying3 (hval 1 3 v1 rfl rfl)
  refine ⟨rfl, rfl, ?_⟩
  cases hl : longR xs with
  | true => exact lback_long A c xs h x1 hl W x3 hT
  | false =>
    obtain ⟨m1, z1⟩ := longR_no hl
    obtain ⟨ys, hs⟩ := sd_exists xs
    by_cases hh : 0 ≤ h ∧ h ≤ 10
    · obtain ⟨k, rfl⟩ : ∃ k : Nat, h = (k : Int) := ⟨h.toNat, by omega⟩
      exact lback_short A c xs ys k (by omega) hl m1 x2 z1 hs W x3 hT
    · exact lback_height A c xs ys h hh hl m1 x2 z1 hs W x3 hT

set_option maxRecDepth 100000 in
theorem ledgerBack_lifted (os : Os) (started : os.Started) (H : Type) (enc : TypeId × Value → H) :
    ReturnsInHanded {} Tryd.checked os 5 .any (fun w args => (Rows.ledgerBackSpec.pre enc Tryd.prog Tryd.f5 [] false w args ∧ laidMetH Tryd.prog laidU w) ∧ sizedMet enc Tryd.prog Tryd.f5 (OpenSpec.ofChange Rows.ledgerBackSpec) false w args)
      (Rows.ledgerBackSpec.post enc Tryd.prog Tryd.f5 false true false false) := by
  refine returnsInHanded_of_change_and (C := Tryd.checked) (X := fun w _ => laidMetH Tryd.prog laidU w) (fun _ _ _ hh h => h.of_heap hh) own_knob started (by kernel_rfl) Tryd.func5
    (ChangeSpec.witness_shaped (enc := enc) (C := Tryd.checked) (os := os) (X := fun w _ => laidMetH Tryd.prog laidU w) false (World.laidAll Tryd.prog os laidU) #[.slice none 0 0, .int .i64 0] 8 (World.laidAll_os _ _ _) (World.shaped_of_ZipB (by kernel_rfl) (by kernel_rfl)) (by kernel_rfl) (by kernel_rfl) (by kernel_rfl) (met_U os _)) ?_
  intro W base args ds gs before hval0 hW _ hwt hL _
  have hval : ∀ (j : Nat) t v, Tryd.f5.params[j]? = some t → args[j]? = some v → Value.okWide Tryd.prog W .any base t v := hval0
  obtain ⟨hg, hlen, hc⟩ := ledgerBack_core H enc W base args ds gs before hval hW (tab_of_laidU hL)
  subst hg
  have hr : (Tryd.f5.params.toList.all fun t => Tryd.prog.readableRec t && decide (t < Tryd.prog.types.size)) = true := by kernel_rfl
  have hread : ∀ t ∈ Tryd.f5.params.toList, Tryd.prog.readableRec t = true ∧ t < Tryd.prog.types.size := fun t ht => by
    have h := List.all_eq_true.1 hr t ht
    rw [Bool.and_eq_true, decide_eq_true_eq] at h
    exact h
  refine hc.mono fun e W' ⟨he, hb⟩ => ?_
  subst he
  match ds, hlen with
  | [d0, d1], _ => exact ⟨_, rfl, law_post laid_out Tryd.underlying4 rfl hread rfl hW rfl rfl rfl hb⟩

theorem ledgerBack_holds : Rows.LedgerBackSaid :=
  OpenClaim.holds_of_wide 5 Tryd.f5 rfl rfl rfl rfl rfl rfl rfl ⟨rfl, rfl, rfl, rfl, rfl⟩ rfl rfl rfl rfl rfl (by kernel_rfl) Tryd.func5 (by kernel_rfl)
    (of_decide_eq_true (by kernel_rfl)) (by unfold Func.isWrapper; first | (rw [if_pos (by decide +kernel)]; kernel_rfl) | (rw [if_neg (by decide +kernel)]; exact ⟨rfl, rfl⟩))
    (fun os started H enc _ => ledgerBack_lifted os started H enc)

theorem ledgerBack_card : Rows.LedgerBackCardSaid :=
  Claim7.holds_tied_plain_at .later [] [.data, .pinned] true _ false
    ledgerBack_holds (fun _ h => by cases h) (by kernel_rfl) (fun _ h => by cases h) ledgerBack_row_tie rfl ⟨rfl, rfl⟩ (by kernel_rfl) rfl
    (fun f fn hf hfn => by
      obtain rfl : f = 5 := Option.some.inj ((show Tryd.prog.funcNamed "paymaster/paymasterlaw11.LedgerBack" = some 5 by kernel_rfl).symm.trans hf) |>.symm
      obtain rfl : fn = Tryd.f5 := (Option.some.inj (Tryd.func5.symm.trans hfn)).symm
      exact ⟨by kernel_rfl, fun j t ht => by
        have hm : t ∈ Tryd.f5.params.toList := by simpa using Array.mem_of_getElem? ht
        have hall : (Tryd.f5.params.toList.all fun u => !Tryd.prog.wantsStandIn u) = true := by kernel_rfl
        exact (show Tryd.prog.wantsStandIn t = false by simpa using List.all_eq_true.1 hall t hm)⟩)
    (by kernel_rfl)

end Go.Proofs.YthindbmgnkohhaaDoor
