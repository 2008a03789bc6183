/-
  The law ShaBlocks: the digest of a text is the bytes of what layer 4 makes of the first state by it and its padding, block by block, whatever the text.
  Conditions: block's table of constants holds what the program's text lays (tied by the card).
-/
import Derived.Test.YtlceniljnejjeaaDoorU5Awake
import Derived.Test.YtlceniljnejjeaaDoorD5Run
import Derived.Test.YtlceniljnejjeaaDoorH4Held
import Derived.Test.YtlceniljnejjeaaDoorW4Laid
namespace Go.Proofs.YtlceniljnejjeaaDoor
set_option linter.unusedVariables false
set_option linter.unusedSimpArgs false
open Go.ChangeShapes Go.WideShapes Go.ChangeAt Go.RowKit

set_option maxHeartbeats 1000000 in
theorem blocks_long (s : ByteArray) (h : 2000 < s.size) (hm : s.size ≤ 9223372036854775807) (w : World) (hT : Tab w) : Calls Tryd.prog 10 #[.string s] w (Tells (.bool true) w.heap.size w) := by
  have cA := awake5_any w hT
  have h1 : (2000 : Int) < (s.size : Int) := by omega
  go_enter Tryd.func10, Tryd.ntmps10
  go_wp2_with (first | (go_at_call 39; refine cA.mono ?_; rintro e w1 ⟨rfl, b1⟩))
  go_ret
  exact ⟨rfl, b1⟩

set_option maxRecDepth 100000 in
set_option maxHeartbeats 4000000 in
theorem blocks_short (s : ByteArray) (hs : s.size ≤ 2000) (w : World) (hT : Tab w) : Calls Tryd.prog 10 #[.string s] w (Tells (.bool true) w.heap.size w) := by
  have cA := awake5_any w hT
  have h1 : ¬ ((2000 : Int) < (s.size : Int)) := by omega
  have cP := fun u => padding_any s.size (by omega) u
  have cF := fun u => first_any u
  have cS := fun u hu => sum_any s (by omega) u hu
  have hps := padB_size s.size
  have hpz := pad_bd s.size
  have hpw := pad_whole s.size
  obtain ⟨ALL, hALL⟩ : ∃ ALL, s ++ padB s.size = ALL := ⟨_, rfl⟩
  have hAs : ALL.size = s.size + (padN s.size + 9) := by rw [← hALL, ByteArray.size_append, hps]
  have hcat : ∀ u : World, (Op.stringOp .add s (padB s.size)).run Tryd.prog u = .ok (.string ALL) u := fun u => by rw [← hALL]; exact run_string_add_sum u _ _ (by omega)
  obtain ⟨M, hM⟩ : ∃ M, ALL.size = 64 * M := ⟨ALL.size / 64, by omega⟩
  have hM64 : M ≤ 64 := by omega
  have hD : digB s.data.toList = strOfNums (stI (runJ ALL st0 M)) := by
    rw [runJ_all ALL M hM, ← hALL, ByteArray.data_append, Array.toList_append]
    unfold digB pad
    rw [show s.data.toList.length = s.size by simp]
  have hDs := digB_size s.data.toList
  have e1 : (s.size : Int) % 18446744073709551616 = (s.size : Int) := by omega
  have e2 : (ALL.size : Int).tmod 64 = 0 := by rw [Int.tmod_eq_emod_of_nonneg (by omega)]; omega
  have e3 : ¬ ((ALL.size : Int) < (s.size : Int) + 9) := by omega
  have e4 : ¬ ((s.size : Int) + 72 < (ALL.size : Int)) := by omega
  have h1d : decide ((2000 : Int) < (s.size : Int)) = false := decide_eq_false h1
  have e3d : decide ((ALL.size : Int) < (s.size : Int) + 9) = false := decide_eq_false e3
  have e4d : decide ((s.size : Int) + 72 < (ALL.size : Int)) = false := decide_eq_false e4
  have e6 : IntKind.i64.wrap ((s.size : Int) + 9) = (s.size : Int) + 9 := IntWalk.i64_in _ (by omega)
  have e7 : IntKind.i64.wrap ((s.size : Int) + 72) = (s.size : Int) + 72 := IntWalk.i64_in _ (by omega)
  have HM := hideIt hM
  generalize padB s.size = PB at *
  generalize digB s.data.toList = D at *
  have HD := hideIt hD
  clear hD hps hALL hAs hpw hM
  go_enter Tryd.func10, Tryd.ntmps10
  go_upto_region 8 with (first
    | (go_at_call 39; refine cA.mono ?_; rintro e w1 ⟨rfl, b1⟩)
    | (go_at_call 29; refine (cP _).mono ?_; rintro e w2 ⟨rfl, b2⟩))
  have L2 := chain b1 b2
  go_upto_region 9 with (first
    | (go_at_call 18; refine (cF _).mono ?_; rintro e w3 ⟨rfl, b3⟩))
  have H4 := ((Has.start w).call (chain L2 b3)).add 24 st0.cs
  have t4 : Tab (w3.alloc (.cells st0.cs 24)) := (hT.call (chain L2 b3)).past _
  have hn4 : w.heap.size ≤ w3.heap.size := (chain L2 b3).size
  change Code.wp _ _ _ _ (w3.alloc (.cells st0.cs 24))
  generalize w3.heap.size = n4 at *
  generalize w3.alloc (.cells st0.cs 24) = W4 at *
  have n0 := hT.1
  clear cA cP cF hcat e1 e2 e3 e4 e6 e7 b1 b2 b3 L2 h1 h1d e3d e4d
  go_wp2
  go_loopg [5] M (fun gk i wr => ∃ j : Nat, j ≤ M ∧ gk = M - j ∧ i = .int .i64 ((64 * j : Nat) : Int) ∧ Has w [(n4, 24, (runJ ALL st0 j).cs)] wr ∧ Tab wr)
  case atStart => exact ⟨0, by omega, rfl, rfl, H4, t4⟩
  case round =>
    clear H4 t4
    obtain ⟨j, hj, hgk, rfl, H, hT0⟩ := hrel
    have HG := hideIt hgk
    clear hgk
    obtain ⟨N, hN⟩ : ∃ N, 64 * j = N := ⟨_, rfl⟩
    have hMs := HM.out
    by_cases hlt : j < M
    · obtain ⟨N2, hN2⟩ : ∃ N2, N + 64 = N2 := ⟨_, rfl⟩
      have hbs := blkA_size ALL j (by omega)
      have hbd : blkA ALL j = ALL.extract N N2 := by unfold blkA; rw [hN, hN2]
      have hsucc := runJ_succ ALL st0 j
      obtain ⟨A, hA⟩ : ∃ A, runJ ALL st0 j = A := ⟨_, rfl⟩
      obtain ⟨F, hF⟩ : ∃ F, runJ ALL st0 (j + 1) = F := ⟨_, rfl⟩
      rw [hA, hF, hbd] at hsucc
      rw [hbd] at hbs
      rw [hA] at H
      obtain ⟨X, hX⟩ : ∃ X, ALL.extract N N2 = X := ⟨_, rfl⟩
      rw [hX] at hbs hsucc
      have cN : ∀ u, Tab u → Calls Tryd.prog 21 #[.agg #[.int .u32 (iv A.a), .int .u32 (iv A.b), .int .u32 (iv A.c), .int .u32 (iv A.d), .int .u32 (iv A.e), .int .u32 (iv A.f), .int .u32 (iv A.g), .int .u32 (iv A.h)], .string X] u (Tells (.tuple #[.agg #[.int .u32 (iv F.a), .int .u32 (iv F.b), .int .u32 (iv F.c), .int .u32 (iv F.d), .int .u32 (iv F.e), .int .u32 (iv F.f), .int .u32 (iv F.g), .int .u32 (iv F.h)], .int .i64 0]) u.heap.size u) := fun u hu => by rw [hsucc]; exact next_ok A X hbs u hu
      have x1 : IntKind.i64.wrap ((N : Int) + 64) = (N2 : Int) := by rw [IntWalk.i64_in _ (by omega)]; omega
      have x2 : (N : Int) + 64 = (N2 : Int) := by omega
      have x3 : IntKind.i64.wrap (N2 : Int) = (N2 : Int) := IntWalk.i64_in _ (by omega)
      have i1 : (N : Int) < (ALL.size : Int) := by omega
      have i2 : (N2 : Int) ≤ (ALL.size : Int) := by omega
      have i3 : (N : Int) ≤ (N2 : Int) := by omega
      rw [hN]
      have HN2 := hideIt hN2
      have HN := hideIt hN
      have HF := hideIt hF
      clear hbd hsucc hA hF hbs hN2 hN hMs
      have fact : ∀ u, Has w [(n4, 24, A.cs)] u → u.cell? ⟨n4, 0, none⟩ = some (.int .u32 (iv A.a)) ∧ u.cell? ⟨n4, 1, none⟩ = some (.int .u32 (iv A.b)) ∧ u.cell? ⟨n4, 2, none⟩ = some (.int .u32 (iv A.c)) ∧ u.cell? ⟨n4, 3, none⟩ = some (.int .u32 (iv A.d)) ∧ u.cell? ⟨n4, 4, none⟩ = some (.int .u32 (iv A.e)) ∧ u.cell? ⟨n4, 5, none⟩ = some (.int .u32 (iv A.f)) ∧ u.cell? ⟨n4, 6, none⟩ = some (.int .u32 (iv A.g)) ∧ u.cell? ⟨n4, 7, none⟩ = some (.int .u32 (iv A.h)) := fun u h => (h.box 0).st
      have S2 := heldT_start fact H.drew (W := wr.drew) hT0
      have S2a := fun o : Obj => heldT_start fact (H.past o).drew (hT0.past o)
      have hin : n4 < wr.heap.size := (H.box 0).inside
      go_wp2_with fail
      go_cut [6, 7] (fun p e wx => ∃ gn, p = .pointer (some ⟨gn, 0, none⟩) ∧ n4 < gn ∧ e = .int .i64 0 ∧ HasT w ((gn, 24, F.cs) :: [(n4, 24, A.cs)]) wx)
      case first =>
        go_region_held3 (fun u => HasT w [(n4, 24, A.cs)] u ∧ u.cell? ⟨n4, 0, none⟩ = some (.int .u32 (iv A.a)) ∧ u.cell? ⟨n4, 1, none⟩ = some (.int .u32 (iv A.b)) ∧ u.cell? ⟨n4, 2, none⟩ = some (.int .u32 (iv A.c)) ∧ u.cell? ⟨n4, 3, none⟩ = some (.int .u32 (iv A.d)) ∧ u.cell? ⟨n4, 4, none⟩ = some (.int .u32 (iv A.e)) ∧ u.cell? ⟨n4, 5, none⟩ = some (.int .u32 (iv A.f)) ∧ u.cell? ⟨n4, 6, none⟩ = some (.int .u32 (iv A.g)) ∧ u.cell? ⟨n4, 7, none⟩ = some (.int .u32 (iv A.h)))
          (first
            | with_reducible exact S2
            | with_reducible exact S2a _
            | with_reducible assumption
            | with_reducible exact heldT_past fact (by assumption) _
            | (with_reducible refine heldT_set1 fact (by dsimp only; omega) (by dsimp only; omega) (by simp; omega) _ ?_; (with_reducible refine heldT_set1 fact (by dsimp only; omega) (by dsimp only; omega) (by simp; omega) _ ?_; (with_reducible refine heldT_set1 fact (by dsimp only; omega) (by dsimp only; omega) (by simp; omega) _ ?_; (with_reducible refine heldT_set1 fact (by dsimp only; omega) (by dsimp only; omega) (by simp; omega) _ ?_; (with_reducible refine heldT_set1 fact (by dsimp only; omega) (by dsimp only; omega) (by simp; omega) _ ?_; (with_reducible refine heldT_set1 fact (by dsimp only; omega) (by dsimp only; omega) (by simp; omega) _ ?_; (with_reducible refine heldT_set1 fact (by dsimp only; omega) (by dsimp only; omega) (by simp; omega) _ ?_; (with_reducible refine heldT_set1 fact (by dsimp only; omega) (by dsimp only; omega) (by simp; omega) _ ?_; with_reducible assumption))))))))
            | fail)
          (first
            | (go_at_call 21; refine (cN _ (tabOf (w := w) (l := [(n4, 24, A.cs)]) (C := fun u => u.cell? ⟨n4, 0, none⟩ = some (.int .u32 (iv A.a)) ∧ u.cell? ⟨n4, 1, none⟩ = some (.int .u32 (iv A.b)) ∧ u.cell? ⟨n4, 2, none⟩ = some (.int .u32 (iv A.c)) ∧ u.cell? ⟨n4, 3, none⟩ = some (.int .u32 (iv A.d)) ∧ u.cell? ⟨n4, 4, none⟩ = some (.int .u32 (iv A.e)) ∧ u.cell? ⟨n4, 5, none⟩ = some (.int .u32 (iv A.f)) ∧ u.cell? ⟨n4, 6, none⟩ = some (.int .u32 (iv A.g)) ∧ u.cell? ⟨n4, 7, none⟩ = some (.int .u32 (iv A.h))) (by assumption))).mono ?_; rintro e w6 ⟨rfl, b6⟩
               have S6 := heldT_keep fact (by assumption) b6
               (first
                | (have z : Box w6 wr.heap.size 24 #[.int .u32 0, .int .u32 0, .int .u32 0, .int .u32 0, .int .u32 0, .int .u32 0, .int .u32 0, .int .u32 0] := ((Box.made wr 24 #[.int .u32 0, .int .u32 0, .int .u32 0, .int .u32 0, .int .u32 0, .int .u32 0, .int .u32 0, .int .u32 0]).draw).call b6
                   obtain ⟨z0, z1, z2, z3, z4, z5, z6, z7, z8⟩ := z.eight
                   have y0 := z.read 0
                   have y1 := z.read 1
                   have y2 := z.read 2
                   have y3 := z.read 3
                   have y4 := z.read 4
                   have y5 := z.read 5
                   have y6 := z.read 6
                   have y7 := z.read 7
                   simp only [List.getElem?_toArray, List.getElem?_cons_zero, List.getElem?_cons_succ] at y0 y1 y2 y3 y4 y5 y6 y7)
                | skip))
            | fail)
        all_goals go_wp2_with fail
        all_goals go_meet
        · exact ⟨w6.heap.size, rfl, Nat.lt_of_lt_of_le hin b6.size, rfl, S6.1.1.add 24 F.cs, S6.1.2.past _⟩
        · have hz : Box w6 wr.heap.size 24 (St.cs ⟨0, 0, 0, 0, 0, 0, 0, 0⟩) := z
          exact ⟨wr.heap.size, rfl, hin, rfl, Has.st8 (S6.1.1.with hz) (by omega) (by simp; omega) F, S6.1.2.set8 (by omega) F⟩
      case rest =>
        obtain ⟨gn, e1, hgn, e2, HT1⟩ := hcut
        subst e1 e2
        have H9 := HT1.1
        have t9 := HT1.2
        clear S2 S2a HT1 H hT0 cN fact hin
        obtain ⟨r0, r1, r2, r3, r4, r5, r6, r7⟩ := (H9.box 0).st
        obtain ⟨y0, y1, y2, y3, y4, y5, y6, y7⟩ := (H9.box 1).st
        obtain ⟨z0, z1, z2, z3, z4, z5, z6, z7, z8⟩ := (H9.box 1).eight
        have hg9 := (H9.box 0).inside
        have H10 := H9.tail.st8 (by omega) (by simp) F
        have t10 := t9.set8 (g := n4) (by omega) F
        clear H9 t9
        go_wp2
        go_roundg (M - (j + 1))
        case measure => have := HG.out; omega
        case rel => exact ⟨j + 1, by omega, rfl, by rw [show 64 * (j + 1) = N2 by have := HN.out; have := HN2.out; omega], by rw [HF.out]; exact H10, t10⟩
    · have e : j = M := by omega
      subst e
      obtain ⟨F, hF⟩ : ∃ F, runJ ALL st0 j = F := ⟨_, rfl⟩
      have hDF := HD.out
      rw [hF] at hDF H
      have hbyte := fun k a r hk ha hr e => dig_byte D F hDF k a r hk ha hr e
      have HB := hideIt hbyte
      have i1 : ¬ ((N : Int) < (ALL.size : Int)) := by omega
      rw [hN]
      have cS2 := cS wr hT0
      clear hF hDF hbyte hN hMs HG hlt hj cS HD
      go_upto_region 20 with (first | (go_at_call 27; refine cS2.mono ?_; rintro e w5 ⟨rfl, b5⟩))
      have H5 := H.call b5
      have hn5 : n4 < w5.heap.size := (H5.box 0).inside
      clear cS2 b5 H hT0 i1
      go_wp2
      go_loopg [9] 32 (fun gk i wr => ∃ k : Nat, k ≤ 32 ∧ gk = 32 - k ∧ i = .int .i64 k ∧ ∃ q, wr = w5.drewN q)
      case atStart => exact ⟨0, by omega, rfl, rfl, 0, rfl⟩
      case round =>
        obtain ⟨k, hk, hgk, rfl, q, rfl⟩ := hrel
        have HG := hideIt hgk
        clear hgk
        by_cases hlt : k < 32
        · obtain ⟨a, r, hr, hkr⟩ : ∃ a r, r < 4 ∧ k = 4 * a + r := ⟨k / 4, k % 4, by omega, by omega⟩
          have hks : k < D.size := by omega
          have r1 := (H5.box 0).read a
          rw [St.cs_at _ _ (by omega)] at r1
          have hb1 := HB.out k a r hks (by omega) hr hkr
          generalize F.at a = x at *
          have hc := D[k].toNat_lt
          generalize hsk : D[k] = c at *
          obtain ⟨K, hK⟩ : ∃ K : Int, (k : Int) = K := ⟨_, rfl⟩
          have K1 : K < 32 := by omega
          have K0 : 0 ≤ K := by omega
          have K2 : K.toNat = k := by omega
          have d2 : K.tdiv 4 = (a : Int) := by rw [Int.tdiv_eq_ediv_of_nonneg K0]; omega
          have d1 : K / 4 = (a : Int) := by omega
          have d3 : K.tmod 4 = (r : Int) := by rw [Int.tmod_eq_emod_of_nonneg K0]; omega
          have d4 : K % 4 = (r : Int) := by omega
          have d5 : IntKind.i64.wrap (a : Int) = (a : Int) := IntWalk.i64_in _ (by omega)
          have a1 : (a : Int) < 8 := by omega
          have K3 : K < (D.size : Int) := by omega
          have HKK := hideIt hK
          rw [hK]
          clear hK hkr
          simp only [byteOf] at hb1
          rcases (by omega : r = 0 ∨ r = 1 ∨ r = 2 ∨ r = 3) with rfl | rfl | rfl | rfl
          all_goals
            simp only [Nat.reduceMul, Nat.reduceSub, Int.reducePow, Nat.mul_zero, Nat.sub_zero] at hb1
            have hb2 : iv x / 1 % 256 = iv x % 256 := by rw [Int.ediv_one]
            try rw [hb2] at hb1
            clear hb2
            go_wp2
            go_quiet (fail)
            rw [← HKK.out]
            clear d1 d2 d3 d4 d5 a1 K0 K1 K2 K3 r1 hb1
            go_wp2
            go_roundg (32 - (k + 1))
            case measure => have := HG.out; omega
            case rel => exact ⟨k + 1, by omega, rfl, by go_num, _, rfl⟩
        · have e : k = 32 := by omega
          subst e
          clear HG
          go_wp2
          go_ret
          exact ⟨rfl, below_drewN H5.below q⟩

theorem shaBlocks_core (H : Type) (enc : TypeId × Value → H) (W : World) (base : Nat) (args : Array Value) (ds gs : List (DataW H)) (before : List MemPlace)
    (hval : ∀ (j : Nat) t v, Tryd.f10.params[j]? = some t → args[j]? = some v → Value.okWide Tryd.prog W .any base t v)
    (hW : DataW.Whole enc Tryd.prog Tryd.f10.params.toList Rows.shaBlocksSpec.vars false W args.toList ds gs before) (hT : Tab W) :
    gs = [] ∧ ds.length = 1 ∧ Calls Tryd.prog 10 args W (Tells (.bool true) W.heap.size W) := by
  obtain ⟨p, q, hA, hV, -, -, -⟩ := hW
  obtain ⟨rfl, rfl⟩ := trodVars_none hV
  have hA : DataW.TrodAll enc Tryd.prog W 0 (fun _ => true) true Tryd.f10.params.toList args.toList ds p := hA
  rw [Tryd.params10] at hA hval
  obtain ⟨v0, vs0, d0, ds0, p0, ps0, e0, rfl, -, h0, hA⟩ := trodAll_cons hA
  obtain ⟨rfl, rfl, rfl⟩ := trodAll_nil hA
  obtain rfl : args = #[v0] := Array.ext' e0
  obtain ⟨s, rfl, rfl, rfl, hs⟩ := Go.ChangeMaps.open_string Tryd.underlying9 (hval 0 9 v0 rfl rfl) h0
  refine ⟨rfl, rfl, ?_⟩
  by_cases h : 2000 < s.size
  · exact blocks_long s h hs W hT
  · exact blocks_short s (by omega) W hT

set_option maxRecDepth 100000 in
theorem shaBlocks_lifted (os : Os) (started : os.Started) (H : Type) (enc : TypeId × Value → H) :
    ReturnsInHanded {} Tryd.checked os 10 .any (fun w args => (Rows.shaBlocksSpec.pre enc Tryd.prog Tryd.f10 [] false w args ∧ laidMetH Tryd.prog laidK w) ∧ sizedMet enc Tryd.prog Tryd.f10 (OpenSpec.ofChange Rows.shaBlocksSpec) false w args)
      (Rows.shaBlocksSpec.post enc Tryd.prog Tryd.f10 false true false false) := by
  refine returnsInHanded_of_change_and (C := Tryd.checked) (X := fun w _ => laidMetH Tryd.prog laidK w) (fun _ _ _ hh h => h.of_heap hh) own_knob started (by kernel_rfl) Tryd.func10
    (ChangeSpec.witness_shaped (enc := enc) (C := Tryd.checked) (os := os) (X := fun w _ => laidMetH Tryd.prog laidK w) false (World.doorLaid Tryd.prog 14 os) #[.string ⟨#[]⟩] 8 rfl (World.shaped_of_RefB (by kernel_rfl) (by kernel_rfl)) (by kernel_rfl) (by kernel_rfl) (by kernel_rfl) (door_met os _)) ?_
  intro W base args ds gs before hval0 hW _ hwt hL _
  have hval : ∀ (j : Nat) t v, Tryd.f10.params[j]? = some t → args[j]? = some v → Value.okWide Tryd.prog W .any base t v := hval0
  obtain ⟨hg, hlen, hc⟩ := shaBlocks_core H enc W base args ds gs before hval hW (tab_of_laid hL)
  subst hg
  have hr : (Tryd.f10.params.toList.all fun t => Tryd.prog.readableRec t && decide (t < Tryd.prog.types.size)) = true := by kernel_rfl
  have hread : ∀ t ∈ Tryd.f10.params.toList, Tryd.prog.readableRec t = true ∧ t < Tryd.prog.types.size := fun t ht => by
    have h := List.all_eq_true.1 hr t ht
    rw [Bool.and_eq_true, decide_eq_true_eq] at h
    exact h
  refine hc.mono fun e W' ⟨he, hb⟩ => ?_
  subst he
  match ds, hlen with
  | [d0], _ => exact ⟨_, rfl, law_post laid_out Tryd.underlying4 rfl hread rfl hW rfl rfl rfl hb⟩

theorem shaBlocks_holds : Rows.ShaBlocksSaid :=
  OpenClaim.holds_of_wide 10 Tryd.f10 rfl rfl rfl rfl rfl rfl rfl ⟨rfl, rfl, rfl, rfl, rfl⟩ rfl rfl rfl rfl rfl (by kernel_rfl) Tryd.func10 (by kernel_rfl)
    (of_decide_eq_true (by kernel_rfl)) (by unfold Func.isWrapper; first | (rw [if_pos (by decide +kernel)]; kernel_rfl) | (rw [if_neg (by decide +kernel)]; exact ⟨rfl, rfl⟩))
    (fun os started H enc _ => shaBlocks_lifted os started H enc)

theorem shaBlocks_card : Rows.ShaBlocksCardSaid :=
  Claim7.holds_tied_plain_at .later [] [.data] true _ false
    shaBlocks_holds (fun _ h => by cases h) (by kernel_rfl) (fun _ h => by cases h) shaBlocks_row_tie rfl ⟨rfl, rfl⟩ (by kernel_rfl) rfl
    (fun f fn hf hfn => by
      obtain rfl : f = 10 := Option.some.inj ((show Tryd.prog.funcNamed "paymaster/paymasterlaw05.ShaBlocks" = some 10 by kernel_rfl).symm.trans hf) |>.symm
      obtain rfl : fn = Tryd.f10 := (Option.some.inj (Tryd.func10.symm.trans hfn)).symm
      exact ⟨by kernel_rfl, fun j t ht => by
        have hm : t ∈ Tryd.f10.params.toList := by simpa using Array.mem_of_getElem? ht
        have hall : (Tryd.f10.params.toList.all fun u => !Tryd.prog.wantsStandIn u) = true := by kernel_rfl
        exact (show Tryd.prog.wantsStandIn t = false by simpa using List.all_eq_true.1 hall t hm)⟩)
    (by kernel_rfl)

end Go.Proofs.YtlceniljnejjeaaDoor
