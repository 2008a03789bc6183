/-
  The law RowWrites: what Write and Sort make of any rows and any remark is what the definitions make; what came in stays, and what Sort tells is nobody else's.
  Conditions: utf8's two tables hold what their texts lay (tied by the card; one is the form's constant).
-/
import Derived.Test.YtfnbehijnmbhjaaDoorR10Sort
import Derived.Test.YtfnbehijnmbhjaaDoorR10Write
import Derived.Test.YtfnbehijnmbhjaaDoorU10Write
import Derived.Test.YtfnbehijnmbhjaaDoorD10Writ
import Derived.Test.YtfnbehijnmbhjaaDoorS10Same
import Derived.Test.YtfnbehijnmbhjaaDoorW10Laid
import Derived.ChangeMaps
namespace Go.Proofs.YtfnbehijnmbhjaaDoor
set_option linter.unusedVariables false
set_option linter.unusedSimpArgs false
set_option maxRecDepth 10000
open Go.ChangeShapes Go.WideShapes Go.ChangeAt Go.RowKit Go.Sort

set_option maxHeartbeats 2000000 in
theorem rwrites_long (A : Option Addr) (c : Nat) (xs : List Rw) (rem : ByteArray) (hm : xs.length ≤ 9223372036854775807) (h : longR xs = true ∨ 500 < rem.size) (w : World) (hR : RwRow w w.heap.size A xs) (hT : TabU w) :
    Calls Tryd.prog 5 #[.slice A xs.length c, .string rem] w (Tells (.bool true) w.heap.size w) := by
  have cL := fun u hu => longR_any A c xs hm u hu
  have hh : longR xs = true ∨ (longR xs = false ∧ (500 : Int) < (rem.size : Int)) := by
    rcases h with h | h
    · exact .inl h
    · cases longR xs with
      | true => exact .inl rfl
      | false => exact .inr ⟨rfl, by omega⟩
  clear h
  generalize longR xs = L at *
  rcases hh with rfl | ⟨rfl, hh⟩
  · go_enter Tryd.func5, Tryd.ntmps5
    go_wp2_with (first
      | (go_at_call 18; refine (cL _ hR).mono ?_; rintro e w2 ⟨rfl, rfl⟩)
      | fail)
    go_ret
    exact ⟨rfl, Below.refl _ _⟩
  · go_enter Tryd.func5, Tryd.ntmps5
    go_wp2_with (first
      | (go_at_call 18; refine (cL _ hR).mono ?_; rintro e w2 ⟨rfl, rfl⟩)
      | fail)
    go_ret
    exact ⟨rfl, Below.refl _ _⟩

theorem app_copy (w : World) (A : Option Addr) (c : Nat) (xs : List Rw) (hm : xs.length ≤ 200) (hR : RwRow w w.heap.size A xs) :
    ∃ v' w', (∀ ty, (Builtin.append_ #[41, 41] ty #[.slice (some ⟨w.heap.size, 0, none⟩) 0 0, .slice A xs.length c]).run Tryd.prog (w.alloc (.cells #[] 26)) = .ok v' w') ∧
      (∃ A2 c2, v' = .slice A2 xs.length c2 ∧ RwRow w' w'.heap.size A2 xs) ∧ Below w.heap.size w w' := by
  have own0 : (w.alloc (.cells #[] 26)).ownsRow w.heap.size 26 3 (.slice (some ⟨w.heap.size, 0, none⟩) 0 0) 0 (rowCs []) :=
    ⟨rfl, .inr ⟨w.heap.size, 0, #[], rfl, Nat.le_refl _, Box.made w 26 #[], Nat.le_refl _, Nat.zero_le _, rfl, rfl⟩⟩
  have L0 := chainA (Below.refl w.heap.size w) (.cells #[] 26)
  cases A with
  | none =>
    have e : xs = [] := by
      cases xs with
      | nil => rfl
      | cons x r =>
        obtain ⟨ad, e, -⟩ := hR 0 x rfl
        cases e
    subst e
    exact ⟨_, _, fun ty => app_none _ _ 0 c (Or.inr ⟨_, _, rfl, Nat.le_refl _⟩) ty, ⟨_, _, rfl, RwRow.nil _ _ _⟩, L0⟩
  | some ad =>
    obtain ⟨v', w', h1, h2, h3⟩ := app_rows (w.alloc (.cells #[] 26)) w.heap.size _ 0 [] own0 ad xs.length c xs rfl (hR.call L0).cells (by omega) (by simp) (N := xs.length) (Nat.zero_add _)
    rw [List.nil_append] at h2
    obtain ⟨A2, c2, h4, -, h5⟩ := rows_of_own h2
    exact ⟨v', w', h1, ⟨A2, c2, h4, h5⟩, L0.grown h3 (by simp) (fun k hk => by injection hk with hk; simp only at hk; omega)⟩
set_option maxRecDepth 100000 in
set_option maxHeartbeats 8000000 in
theorem rwrites_short (A : Option Addr) (c : Nat) (xs : List Rw) (rem : ByteArray) (hx : AllRw xs) (h : longR xs = false) (hr : rem.size ≤ 500) (w : World) (hR : RwRow w w.heap.size A xs) (hT : TabU w) :
    Calls Tryd.prog 5 #[.slice A xs.length c, .string rem] w (Tells (.bool true) w.heap.size w) := by
  obtain ⟨hlen, hid⟩ := longR_no h
  have cL := fun u hu => longR_any A c xs (by omega) u hu
  rw [h] at cL
  have hT1 := rowsT_len xs 200 hx hid
  have hT2 : (rowsT xs).length ≤ 48200 := Nat.le_trans hT1 (Nat.le_trans (Nat.mul_le_mul_right _ hlen) (by decide))
  have HZ := hideIt (fun x hx => Nat.le_trans (hid x hx) (by decide) : ∀ x ∈ xs, x.id.size ≤ 1000000)
  have cW := fun A2 c2 u hu hv => rowwrite_any A2 c2 xs rem (by omega) hx HZ.out (by omega) (by omega) u hu hv
  have cV := fun u hu => rrowwrite_any A c xs rem (by omega) hx HZ.out (by omega) (by omega) u hu
  have cS := fun A2 c2 u hu => rowsort2_any A2 c2 xs (by omega) HZ.out u hu
  have cR := fun u hu => rsortref_any A c xs (by omega) u hu
  have cE := fun A2 B2 c2 d2 (l : List Rw) (hl : l.length ≤ 200) u h1 h2 => rsame_any A2 B2 c2 d2 l (by omega) u h1 h2
  have hri : ¬ (500 : Int) < (rem.size : Int) := by omega
  obtain ⟨v', w1, hcp, ⟨A2, c2, rfl, hR2⟩, L1⟩ := app_copy w A c xs hlen hR
  clear hid h hT1 hT2
  generalize wrR xs rem.data.toList = R at *
  obtain ⟨RS, RE⟩ := R
  simp only at cW cV
  obtain ⟨n, hn⟩ : ∃ n, xs.length = n := ⟨_, rfl⟩
  have cE1 := fun u h1 h2 => cE A2 A c2 c xs (by omega) u h1 h2
  rw [hn] at cW cV cS cR cL hlen hcp cE1 ⊢
  have hR1 := (hR.call L1).more L1.size
  have hTw := hT.call L1
  go_enter Tryd.func5, Tryd.ntmps5
  go_upto_region 4 with (first
    | (at_builtin; refine wpList_run rfl _ _ _ rfl _ _ rfl rfl _ w1 hcp ?_)
    | (go_at_call 18; refine (cL _ hR).mono ?_; rintro e w2 ⟨rfl, rfl⟩)
    | fail)
  go_upto_region 6 with (first
    | (go_at_call 19; refine (cW A2 c2 _ hR2 hTw).mono ?_; rintro e w3 ⟨rfl, j3⟩; have hR3 := (hR1.call j3).more j3.size; have hM3 := (hR2.call j3).more j3.size; have hB3 := L1.trans (j3.mono L1.size))
    | (go_at_call 20; refine (cV _ hR3).mono ?_; rintro e w4 ⟨rfl, j4⟩; have hR4 := (hR3.call j4).more j4.size; have hM4 := (hM3.call j4).more j4.size; have hB4 := hB3.trans (j4.mono hB3.size))
    | fail)
  clear cW cV cL hcp hR hR1 hR2 hR3 hM3 hB3 j3 j4 hT hTw L1
  generalize w4 = W at *
  go_wp2
  go_loopg [10] 2 (fun gk vt wr => ∃ t : Nat, vt = .int .i64 t ∧ t ≤ 2 ∧ 2 - t ≤ gk ∧ Below W.heap.size W wr)
  case atStart => exact ⟨0, by go_num, by omega, by omega, Below.refl _ _⟩
  case round =>
    obtain ⟨t, rfl, ht2, hgk, hb⟩ := hrel
    by_cases hlt : t < 2
    · have hlti : (t : Int) < 2 := by omega
      have w1' : IntKind.i64.wrap ((t : Int) + 1) = ((t + 1 : Nat) : Int) := by rw [IntKind.wrap_i64]; omega
      have hRw := (hR4.call hb).more hb.size
      have hMw := (hM4.call hb).more hb.size
      go_upto_region 10 with (first
        | (go_at_call 21; refine (cS A2 c2 _ hMw).mono ?_; rintro e w5 ⟨g, ys, rfl, hg, hys, hBy, j5, hSd⟩)
        | fail)
      have hb5 := hb.trans (j5.mono hb.size)
      have hR5 := (hRw.call j5).more j5.size
      have hM5 := (hMw.call j5).more j5.size
      have hgs := hBy.inside
      have hRy := hBy.row
      rw [List.toList_toArray] at hRy
      have HSd := hideIt hSd
      have cE2 := fun B2 d2 u h1 h2 => cE (some ⟨g, 0, none⟩) B2 n d2 ys (by omega) u h1 h2
      rw [hys] at cE2
      clear hSd hRw hMw
      go_upto_region 12 with (first
        | (go_at_call 22; refine (cR _ hR5).mono ?_; rintro e w6 ⟨v6, rfl, zs, hzs, hO6, j6, hSz⟩
           have hzy := hSz.same HSd.out
           subst hzy
           obtain ⟨A6, c6, hv6, -, hR6⟩ := rows_of_own hO6
           rw [hzs] at hv6
           subst hv6
           have hRy6 := (hRy.call j6).more j6.size
           have hb6 := hb5.trans (j6.mono hb5.size)
           have hBy6 := hBy.call j6
           have hR6b := (hR5.call j6).more j6.size
           have hM6 := (hM5.call j6).more j6.size)
        | (go_at_call 17; (with_reducible refine (cE2 A6 c6 _ hRy6 hR6).mono ?_); rintro e w7 ⟨rfl, j7⟩
           have hb7 := hb6.trans (j7.mono hb6.size)
           have hBy7 := hBy6.call j7
           have hR7 := (hR6b.call j7).more j7.size
           have hM7 := (hM6.call j7).more j7.size)
        | (go_at_call 17; (with_reducible refine (cE1 _ hM7 hR7).mono ?_); rintro e w8 ⟨rfl, j8⟩
           have hb8 := hb7.trans (j8.mono hb7.size)
           have hBy8 := hBy7.call j8)
        | fail)
      clear hSz hR6 hO6 hRy6 hRy hBy hBy7 hBy6 hM7 hR7 hM6 hR6b hb7 hb6 hR5 hM5 HSd cE2 cE1 cE cS cR j5 j6 j7 j8
      go_wp2
      go_loopg [12] n (fun g2 vi wq => ∃ (i : Nat) (cs : Array Value), vi = .int .i64 i ∧ i ≤ n ∧ n - i ≤ g2 ∧ Box wq g 26 cs ∧ cs.size = n * 3 ∧ Below W.heap.size W wq)
      case atStart => exact ⟨0, _, by go_num, Nat.zero_le _, by omega, hBy8, by simp [rowCs_len3]; omega, hb8⟩
      case round =>
        obtain ⟨i, cs, rfl, hin, hg2, hBc, hcs, hbc⟩ := hrel
        by_cases hli : i < n
        · have hlii : (i : Int) < (n : Int) := by omega
          have w2' : IntKind.i64.wrap ((i : Int) + 1) = ((i + 1 : Nat) : Int) := by rw [IntKind.wrap_i64]; omega
          obtain ⟨u0, hu0⟩ : ∃ u0, wr.cell? ⟨g, i * 3, none⟩ = some u0 := by
            rw [Box.read hBc]
            exact ⟨_, Array.getElem?_eq_getElem (by omega)⟩
          have hf0 := Box.free hBc (i * 3)
          have hgi := Box.inside hBc
          go_wp2
          go_roundg (n - (i + 1))
          case measure => omega
          case rel => exact ⟨i + 1, _, by go_num, hli, Nat.le_refl _, Box.wrote hBc (i * 3) _, by rw [Array.size_setIfInBounds]; exact hcs, hbc.setCell (by have := hb.size; show _ ≤ g; omega) _⟩
        · have hlii : ¬ (i : Int) < (n : Int) := by omega
          go_wp2
          go_roundg (2 - (t + 1))
          case measure => omega
          case rel => exact ⟨t + 1, by go_num, by omega, Nat.le_refl _, hbc⟩
    · have hlti : ¬ (t : Int) < 2 := by omega
      go_wp2
      go_ret
      exact ⟨rfl, hB4.trans (hb.mono hB4.size)⟩

theorem rowWrites_core (H : Type) (enc : TypeId × Value → H) (W : World) (base : Nat) (args : Array Value) (ds gs : List (DataW H)) (before : List MemPlace)
    (hval : ∀ (j : Nat) t v, Tryd.f5.params[j]? = some t → args[j]? = some v → Value.okWide Tryd.prog W .any base t v)
    (hW : DataW.Whole enc Tryd.prog Tryd.f5.params.toList Rows.rowWritesSpec.vars false W args.toList ds gs before) (hT : TabU W) :
    gs = [] ∧ ds.length = 2 ∧ Calls Tryd.prog 5 args W (Tells (.bool true) W.heap.size W) := by
  obtain ⟨p, q, hA, hV, -, -, -⟩ := hW
  obtain ⟨rfl, rfl⟩ := trodVars_none hV
  have hA : DataW.TrodAll enc Tryd.prog W 0 (fun _ => true) true Tryd.f5.params.toList args.toList ds p := hA
  rw [Tryd.params5] at hA hval
  obtain ⟨v0, vs0, d0, ds0, p0, ps0, e0, rfl, -, h0, hA⟩ := trodAll_cons hA
  obtain ⟨v1, vs1, d1, ds1, p1, ps1, rfl, rfl, -, h1, hA⟩ := trodAll_cons hA
  obtain ⟨rfl, rfl, rfl⟩ := trodAll_nil hA
  obtain rfl : args = #[v0, v1] := Array.ext' e0
  obtain ⟨A, c, xs, rfl, z1, -, -, z2, z3⟩ := open_rows (hval 0 41 v0 rfl rfl) h0
  obtain ⟨s, rfl, rfl, rfl, z5⟩ := Go.ChangeMaps.open_string Tryd.underlying9 (hval 1 9 v1 rfl rfl) h1
  refine ⟨rfl, rfl, ?_⟩
  by_cases h : longR xs = true ∨ 500 < s.size
  · exact rwrites_long A c xs s z1 h W z3 hT
  · exact rwrites_short A c xs s z2 (by cases hq : longR xs with | false => rfl | true => exact absurd (Or.inl hq) h) (by omega) W z3 hT

set_option maxRecDepth 100000 in
theorem rowWrites_lifted (os : Os) (started : os.Started) (H : Type) (enc : TypeId × Value → H) :
    ReturnsInHanded {} Tryd.checked os 5 .any (fun w args => (Rows.rowWritesSpec.pre enc Tryd.prog Tryd.f5 [] false w args ∧ laidMetH Tryd.prog laidU w) ∧ sizedMet enc Tryd.prog Tryd.f5 (OpenSpec.ofChange Rows.rowWritesSpec) false w args)
      (Rows.rowWritesSpec.post enc Tryd.prog Tryd.f5 false true false false) := by
  refine returnsInHanded_of_change_and (C := Tryd.checked) (X := fun w _ => laidMetH Tryd.prog laidU w) (fun _ _ _ hh h => h.of_heap hh) own_knob started (by kernel_rfl) Tryd.func5
    (ChangeSpec.witness_shaped (enc := enc) (C := Tryd.checked) (os := os) (X := fun w _ => laidMetH Tryd.prog laidU w) false (World.laidAll Tryd.prog os laidU) #[.slice none 0 0, .string ⟨#[]⟩] 8 (World.laidAll_os _ _ _) (World.shaped_of_ZipB (by kernel_rfl) (by kernel_rfl)) (by kernel_rfl) (by kernel_rfl) (by kernel_rfl) (met_U os _)) ?_
  intro W base args ds gs before hval0 hW _ hwt hL _
  have hval : ∀ (j : Nat) t v, Tryd.f5.params[j]? = some t → args[j]? = some v → Value.okWide Tryd.prog W .any base t v := hval0
  obtain ⟨hg, hlen, hc⟩ := rowWrites_core H enc W base args ds gs before hval hW (tab_of_laidU hL)
  subst hg
  have hr : (Tryd.f5.params.toList.all fun t => Tryd.prog.readableRec t && decide (t < Tryd.prog.types.size)) = true := by kernel_rfl
  have hread : ∀ t ∈ Tryd.f5.params.toList, Tryd.prog.readableRec t = true ∧ t < Tryd.prog.types.size := fun t ht => by
    have h := List.all_eq_true.1 hr t ht
    rw [Bool.and_eq_true, decide_eq_true_eq] at h
    exact h
  refine hc.mono fun e W' ⟨he, hb⟩ => ?_
  subst he
  match ds, hlen with
  | [d0, d1], _ => exact ⟨_, rfl, law_post laid_out Tryd.underlying4 rfl hread rfl hW rfl rfl rfl hb⟩

theorem rowWrites_holds : Rows.RowWritesSaid :=
  OpenClaim.holds_of_wide 5 Tryd.f5 rfl rfl rfl rfl rfl rfl rfl ⟨rfl, rfl, rfl, rfl, rfl⟩ rfl rfl rfl rfl rfl (by kernel_rfl) Tryd.func5 (by kernel_rfl)
    (of_decide_eq_true (by kernel_rfl)) (by unfold Func.isWrapper; first | (rw [if_pos (by decide +kernel)]; kernel_rfl) | (rw [if_neg (by decide +kernel)]; exact ⟨rfl, rfl⟩))
    (fun os started H enc _ => rowWrites_lifted os started H enc)

theorem rowWrites_card : Rows.RowWritesCardSaid :=
  Claim7.holds_tied_plain_at .later [] [.data, .pinned] true _ false
    rowWrites_holds (fun _ h => by cases h) (by kernel_rfl) (fun _ h => by cases h) rowWrites_row_tie rfl ⟨rfl, rfl⟩ (by kernel_rfl) rfl
    (fun f fn hf hfn => by
      obtain rfl : f = 5 := Option.some.inj ((show Tryd.prog.funcNamed "paymaster/paymasterlaw10.RowWrites" = some 5 by kernel_rfl).symm.trans hf) |>.symm
      obtain rfl : fn = Tryd.f5 := (Option.some.inj (Tryd.func5.symm.trans hfn)).symm
      exact ⟨by kernel_rfl, fun j t ht => by
        have hm : t ∈ Tryd.f5.params.toList := by simpa using Array.mem_of_getElem? ht
        have hall : (Tryd.f5.params.toList.all fun u => !Tryd.prog.wantsStandIn u) = true := by kernel_rfl
        exact (show Tryd.prog.wantsStandIn t = false by simpa using List.all_eq_true.1 hall t hm)⟩)
    (by kernel_rfl)

end Go.Proofs.YtfnbehijnmbhjaaDoor
