/-
  What the outright laws of stage 16 ask first: the chapter's example.
-/
import Derived.Test.YtjndabnegmecmaaDoorM16Fn
import Derived.Test.YtjndabnegmecmaaDoorM15Law
import Derived.Test.YtjndabnegmecmaaDoorW8Off
namespace Go.Proofs.YtjndabnegmecmaaDoor
set_option linter.unusedVariables false
set_option linter.unusedSimpArgs false
set_option maxRecDepth 10000
open Go.ChangeShapes Go.WideShapes Go.ChangeAt Go.RowKit

def zA : Lf := ⟨false, ofL [97], ⟨#[]⟩, 0, 0⟩
def zB : Lf := ⟨false, ofL [98], ⟨#[]⟩, 0, 1⟩
def zC : Lf := ⟨false, ofL [99], ⟨#[]⟩, 0, 2⟩
def zD : Lf := ⟨false, ofL [100], ⟨#[]⟩, 0, 3⟩
def zL : List Lf := [zA, zB, zC, zD]
theorem b_may : zA.may = true ∧ zB.may = true ∧ zC.may = true ∧ zD.may = true := by decide +kernel
theorem bw_node (x : Lf) (h : x.may = true) : nodeOf 7 x = ⟨dgB 7 x.text, x.h, x.l⟩ := by rw [nodeOf, if_pos ⟨by decide, h⟩]
theorem bw_fair : FairT 7 zL 2 := by
  refine ⟨by decide, rfl, by decide, fun y hy => ?_, ?_⟩
  · simp only [zL, List.mem_cons, List.not_mem_nil, or_false] at hy
    rcases hy with rfl | rfl | rfl | rfl
    · exact ⟨b_may.1, ⟨by decide, by decide⟩, ⟨by decide, by decide⟩⟩
    · exact ⟨b_may.2.1, ⟨by decide, by decide⟩, ⟨by decide, by decide⟩⟩
    · exact ⟨b_may.2.2.1, ⟨by decide, by decide⟩, ⟨by decide, by decide⟩⟩
    · exact ⟨b_may.2.2.2, ⟨by decide, by decide⟩, ⟨by decide, by decide⟩⟩
  · have e : sumN (zL.map (nodeOf 7)) = 6 := by
      simp only [zL, List.map_cons, List.map_nil, sumN]
      rw [bw_node zA b_may.1, bw_node zB b_may.2.1, bw_node zC b_may.2.2.1, bw_node zD b_may.2.2.2]
      simp only [Nd.sum, nv, zA, zB, zC, zD]
      omega
    rw [e]
    exact room_iff.2 (by omega)
theorem bw_sides : sibsN 7 (zL.map (nodeOf 7)) 2 2 = [nodeOf 7 zD, ndAt (upN 7 1 (zL.map (nodeOf 7))) 0] := rfl
theorem bw_shape1 : shapeN 7 1 2 (sibsN 7 (zL.map (nodeOf 7)) 2 2) = 160 := by
  rw [shapeN, if_neg (by omega), if_pos (bw_fair.sides (by decide)), sibs_len, if_neg (by omega)]
theorem bw_shape2 : shapeN 7 2 2 (sibsN 7 (zL.map (nodeOf 7)) 2 2) = 0 := bw_fair.shape (p := 2) (by decide)
theorem bw_shape3 : shapeN 6 2 2 (sibsN 7 (zL.map (nodeOf 7)) 2 2) = 70 := by
  have h : allW 6 (sibsN 7 (zL.map (nodeOf 7)) 2 2) = false := by
    have h7 := (allW_mem (bw_fair.sides (p := 2) (by decide))).2 (nodeOf 7 zD) (by rw [bw_sides]; simp)
    have hs : ((nodeOf 7 zD).hash.size : Int) = 7 := by
      rw [Nd.of, Bool.and_eq_true] at h7
      exact of_decide_eq_true h7.2
    have h6 : Nd.of 6 (nodeOf 7 zD) = false := by
      rw [Nd.of, hs]
      decide
    rw [bw_sides, allW, List.all_cons, h6, Bool.false_and, Bool.and_false]
  rw [shapeN, if_neg (by omega), h, if_neg (by decide)]
theorem bw_shape4 : shapeN 7 64 2 (sibsN 7 (zL.map (nodeOf 7)) 2 2) = 120 := by rw [shapeN, if_pos (by omega)]
theorem lf16_app1 (w : World) (base : Nat) (v : Value) (n : Nat) (ys : List Lf) (hown : w.ownsRow base 36 5 v n (lfS.flat ys)) (x : Lf) (hm : n ≤ 100000000) (hb : base ≤ w.heap.size) :
    ∃ v' w', (∀ ty, (Builtin.append_ #[22, 22] ty #[v, .slice (some ⟨w.heap.size, 0, none⟩) 1 1]).run Tryd.prog (w.alloc (.cells (lfB x.pad x.id x.salt x.h x.l) 36)) = .ok v' w') ∧
      w'.ownsRow base 36 5 v' (n + 1) (lfS.flat (ys ++ [x])) ∧ (w.alloc (.cells (lfB x.pad x.id x.salt x.h x.l) 36)).grownBy w' v.ownBlock ∧ Below base w w' := lfE.app1 w base v n ys hown x _ rfl hm hb
set_option maxRecDepth 100000 in
set_option maxHeartbeats 8000000 in
theorem awake16_any (w : World) (hK : Tab w) (hU : TabU w) : Calls Tryd.prog 6 #[] w (Tells (.bool true) w.heap.size w) := by
  have HF := hideIt bw_fair
  go_enter Tryd.func6, Tryd.ntmps6
  go_wp2
  go_loopg [1, 2] 4 (fun gk v i wr => ∃ j : Nat, j ≤ 4 ∧ 4 - j ≤ gk ∧ i = .int .i64 j ∧ Below w.heap.size w wr ∧ wr.ownsRow w.heap.size 36 5 v j (lfS.flat (zL.take j)))
  case atStart => exact ⟨0, Nat.zero_le _, by omega, rfl, Below.refl _ _, by rw [List.take_zero]; exact World.ownsRow_nil _ _ _ _⟩
  case round =>
    obtain ⟨j, hj, hgk, rfl, hb, hown⟩ := hrel
    have HG := hideIt hgk
    clear hgk
    by_cases hlt : j < 4
    · have hc : j = 0 ∨ j = 1 ∨ j = 2 ∨ j = 3 := by omega
      rcases hc with rfl | rfl | rfl | rfl
      ·
        have cv := fun W' => conv_one 97 W' 5 97 rfl
        have cu := IntKind.wrap_u8
        have b6 := chainA (Below.refl wr.heap.size wr) (.cells #[.int .u8 97] 5)
        obtain ⟨v', w6, hrun, o6, -, b7⟩ := lf16_app1 (wr.alloc (.cells #[.int .u8 97] 5)) w.heap.size u1 0 (zL.take 0) (hown.alloc _) ⟨false, ofL [97], ⟨#[]⟩, 0, 0⟩ (by omega) (chain hb b6).size
        simp only [World.size_alloc] at hrun
        have hb8 := (chain hb b6).trans b7
        clear b6 b7
        go_wp2_with (first
          | (at_builtin; refine gen_run rfl _ _ _ rfl _ _ rfl rfl _ w6 hrun ?_)
          | fail)
        go_roundg (4 - (0 + 1))
        case measure => have := HG.out; omega
        case rel => exact ⟨0 + 1, by omega, Nat.le_refl _, rfl, hb8, o6⟩
      ·
        have cv := fun W' => conv_one 98 W' 5 98 rfl
        have cu := IntKind.wrap_u8
        have b6 := chainA (Below.refl wr.heap.size wr) (.cells #[.int .u8 98] 5)
        obtain ⟨v', w6, hrun, o6, -, b7⟩ := lf16_app1 (wr.alloc (.cells #[.int .u8 98] 5)) w.heap.size u1 1 (zL.take 1) (hown.alloc _) ⟨false, ofL [98], ⟨#[]⟩, 0, 1⟩ (by omega) (chain hb b6).size
        simp only [World.size_alloc] at hrun
        have hb8 := (chain hb b6).trans b7
        clear b6 b7
        go_wp2_with (first
          | (at_builtin; refine gen_run rfl _ _ _ rfl _ _ rfl rfl _ w6 hrun ?_)
          | fail)
        go_roundg (4 - (1 + 1))
        case measure => have := HG.out; omega
        case rel => exact ⟨1 + 1, by omega, Nat.le_refl _, rfl, hb8, o6⟩
      ·
        have cv := fun W' => conv_one 99 W' 5 99 rfl
        have cu := IntKind.wrap_u8
        have b6 := chainA (Below.refl wr.heap.size wr) (.cells #[.int .u8 99] 5)
        obtain ⟨v', w6, hrun, o6, -, b7⟩ := lf16_app1 (wr.alloc (.cells #[.int .u8 99] 5)) w.heap.size u1 2 (zL.take 2) (hown.alloc _) ⟨false, ofL [99], ⟨#[]⟩, 0, 2⟩ (by omega) (chain hb b6).size
        simp only [World.size_alloc] at hrun
        have hb8 := (chain hb b6).trans b7
        clear b6 b7
        go_wp2_with (first
          | (at_builtin; refine gen_run rfl _ _ _ rfl _ _ rfl rfl _ w6 hrun ?_)
          | fail)
        go_roundg (4 - (2 + 1))
        case measure => have := HG.out; omega
        case rel => exact ⟨2 + 1, by omega, Nat.le_refl _, rfl, hb8, o6⟩
      ·
        have cv := fun W' => conv_one 100 W' 5 100 rfl
        have cu := IntKind.wrap_u8
        have b6 := chainA (Below.refl wr.heap.size wr) (.cells #[.int .u8 100] 5)
        obtain ⟨v', w6, hrun, o6, -, b7⟩ := lf16_app1 (wr.alloc (.cells #[.int .u8 100] 5)) w.heap.size u1 3 (zL.take 3) (hown.alloc _) ⟨false, ofL [100], ⟨#[]⟩, 0, 3⟩ (by omega) (chain hb b6).size
        simp only [World.size_alloc] at hrun
        have hb8 := (chain hb b6).trans b7
        clear b6 b7
        go_wp2_with (first
          | (at_builtin; refine gen_run rfl _ _ _ rfl _ _ rfl rfl _ w6 hrun ?_)
          | fail)
        go_roundg (4 - (3 + 1))
        case measure => have := HG.out; omega
        case rel => exact ⟨3 + 1, by omega, Nat.le_refl _, rfl, hb8, o6⟩
    · have e : j = 4 := by omega
      subst e
      have hown : wr.ownsRow w.heap.size 36 5 u1 zL.length (lfS.flat zL) := hown
      obtain ⟨gl, cl, hv, hgl, hcl, BL⟩ := Sh.Blk.of_own (S := lfS) hown (fun e => by cases e)
      have hv : u1 = .slice (some ⟨gl, 0, none⟩) 4 cl := hv
      have hcl : 4 ≤ cl := hcl
      subst hv
      have c1 := fun u hR hT hV => (show Calls Tryd.prog 8 #[.int .i64 7, .slice (some ⟨gl, 0, none⟩) 4 cl] u _ from new15_fair 7 (some ⟨gl, 0, none⟩) cl zL u HF.out hR hT hV)
      have cO2 := fun u (q : TrG) (hu : TrAt u q 7 zL 2) => (show Calls Tryd.prog 10 #[.pointer (some ⟨q.g, 0, none⟩), .int .u64 2] u (fun e w' => Below u.heap.size u w' ∧ ∃ A c, e = .returned (.tuple #[.agg (enV zC 2 A 2 c), .int .i64 0]) ∧ SdAt w' u.heap.size A (sibsN 7 (zL.map (nodeOf 7)) 2 2) ∧ 2 ≤ c) from of16_in hu HF.out 2 (by decide) (x := zC) rfl)
      have cO4 := fun u (q : TrG) (hu : TrAt u q 7 zL 2) => (show Calls Tryd.prog 10 #[.pointer (some ⟨q.g, 0, none⟩), .int .u64 4] u _ from of16_out hu HF.out 4 (by decide) (by decide))
      have cN := fun u (q : TrG) (hu : TrAt u q 7 zL 2) => (show Calls Tryd.prog 18 #[.pointer (some ⟨q.g, 0, none⟩), .int .i64 1, .int .u64 0] u _ from node15_in hu HF.out (j := 1) (by decide) 0 (by decide))
      have cL := fun u hu hv => leafNode_any 7 zD (by decide) (by decide) ⟨by decide, by decide⟩ ⟨by decide, by decide⟩ u hu hv
      have e0 : decide (0 < 2 ^ (2 - 1)) = true := by decide
      rw [e0] at cN
      have f1 := bw_shape1
      have f2 := bw_shape2
      have f3 := bw_shape3
      have f4 := bw_shape4
      simp only [bw_sides] at f1 f2 f3 f4 cO2
      generalize ndAt (upN 7 1 (zL.map (nodeOf 7))) 0 = B at *
      generalize nodeOf 7 zD = A at *
      have cS := fun (n h V : Int) (hV : shapeN n h 2 [A, B] = V) gs cs u hR => (show Calls Tryd.prog 11 #[.int .i64 n, .int .i64 h, .agg #[.int .u64 2, .slice (some ⟨gs, 0, none⟩) 2 cs]] u (Tells (.int .i64 V) u.heap.size u) from (by
        have := shape16_any n h 2 (by decide) (some ⟨gs, 0, none⟩) cs [A, B] (by simp) u hR
        rw [hV] at this
        exact this))
      have cS1 := cS 7 1 160 f1
      have cS2 := cS 7 2 0 f2
      have cS3 := cS 6 2 70 f3
      have cS4 := cS 7 64 120 f4
      have hqA := fun (u : World) => (show (binOp .eql 46 A.val A.val).run Tryd.prog u = .ok (.bool true) u by rw [run_eql_nd, Nd.same_self])
      have hqB := fun (u : World) => (show (binOp .eql 46 B.val B.val).run Tryd.prog u = .ok (.bool true) u by rw [run_eql_nd, Nd.same_self])
      have hqC := fun (u : World) => (show (binOp .neq 36 zC.val zC.val).run Tryd.prog u = .ok (.bool false) u by rw [run_neq_lf, (Lf.same_iff _ _).2 rfl]; rfl)
      clear e0 f1 f2 f3 f4 cS
      obtain ⟨sa, ah, al⟩ := A
      obtain ⟨sb, bh, bl⟩ := B
      simp only [Nd.val, Lf.val, Lf.zero, zC, zD] at c1 cO2 cO4 cN cL hqA hqB hqC
      go_upto_region 7 with (first
        | (go_at_call 8; refine (c1 _ BL.row (hK.call hb) (hU.call hb)).mono ?_; rintro e w1 ⟨b1, q, rfl, hT1, hq1⟩)
        | fail)
      have BL1 := BL.call b1
      have hb1 := chain hb b1
      have J0 := Has.start w1
      clear c1 BL hown b1
      go_upto_region 8 with (first
        | (go_at_call 10; refine (cO2 _ _ hT1).mono ?_; rintro e w2 ⟨b2, A2, cs, rfl, hSd, -⟩; have J1 := (J0.call b2).add 41 (enV ⟨false, ofL [99], ⟨#[]⟩, 0, 2⟩ 2 A2 2 cs))
        | fail)
      rcases hSd with h | ⟨gs, rfl, hlo, -, hB⟩
      · cases h
      have BS := hB.call (chainA (Below.refl w2.heap.size w2) (.cells (enV ⟨false, ofL [99], ⟨#[]⟩, 0, 2⟩ 2 (some ⟨gs, 0, none⟩) 2 cs) 41))
      obtain ⟨g5, hg5⟩ : ∃ g, w2.heap.size = g := ⟨_, rfl⟩
      rw [hg5] at J1 ⊢
      change Code.wp _ _ _ _ (w2.alloc (.cells (enV ⟨false, ofL [99], ⟨#[]⟩, 0, 2⟩ 2 (some ⟨gs, 0, none⟩) 2 cs) 41))
      generalize w2.alloc (.cells (enV ⟨false, ofL [99], ⟨#[]⟩, 0, 2⟩ 2 (some ⟨gs, 0, none⟩) 2 cs) 41) = W2 at *
      clear b2 hg5 hB cO2 J0
      have hT2 := hT1.call J1.below
      have J0 := Has.start W2
      go_upto_region 9 with (first
        | (go_at_call 10; refine (cO4 _ _ hT2).mono ?_; rintro e w3 ⟨rfl, b3⟩; have J2 := (J0.call b3).past (.cells (enV ⟨false, ⟨#[]⟩, ⟨#[]⟩, 0, 0⟩ 0 none 0 0) 41))
        | fail)
      change Code.wp _ _ _ _ (w3.alloc (.cells (enV ⟨false, ⟨#[]⟩, ⟨#[]⟩, 0, 0⟩ 0 none 0 0) 41))
      generalize w3.alloc (.cells (enV ⟨false, ⟨#[]⟩, ⟨#[]⟩, 0, 0⟩ 0 none 0 0) 41) = W3 at *
      clear b3 cO4 J0
      have J3 := J1.call J2.below
      have BS3 := BS.call J2.below
      have BL3 := BL1.call J3.below
      have hT3 := hT2.call J2.below
      clear J1 J2 BS BL1 hT2
      obtain ⟨⟨x0, x1, x2, x3, x4, x5, x6⟩, xin⟩ := (J3.box 0).seven
      simp only at x0 x1 x2 x3 x4
      have d0 : W3.cell? ⟨gl, 10, none⟩ = some (.bool false) := BL3.cell (i := 2) (x := zC) rfl (j := 0) (by decide)
      have d1 : W3.cell? ⟨gl, 11, none⟩ = some (.string (ofL [99])) := BL3.cell (i := 2) (x := zC) rfl (j := 1) (by decide)
      have d2 : W3.cell? ⟨gl, 12, none⟩ = some (.string ⟨#[]⟩) := BL3.cell (i := 2) (x := zC) rfl (j := 2) (by decide)
      have d3 : W3.cell? ⟨gl, 13, none⟩ = some (.int .u64 0) := BL3.cell (i := 2) (x := zC) rfl (j := 3) (by decide)
      have d4 : W3.cell? ⟨gl, 14, none⟩ = some (.int .u64 2) := BL3.cell (i := 2) (x := zC) rfl (j := 4) (by decide)
      have din := BL3.inside
      go_quiet (fail)
      clear x0 x1 x2 x3 x4 x5 x6 xin d0 d1 d2 d3 d4 din hqC
      have q4 := below_drewN (Below.refl W3.heap.size W3) nq
      have J4 := J3.call q4
      have BS4 := BS3.call q4
      have BL4 := BL3.call q4
      have hT4 := hT3.call q4
      generalize W3.drewN nq = W4 at *
      clear J3 BS3 BL3 hT3 q4
      go_upto_region 12 with (first
        | (go_at_call 18; refine (cN _ _ hT4).mono ?_; rintro e w5 ⟨rfl, b5⟩; have J5 := (J4.call b5).add 46 (ndB sb bh bl); have L5 := chainA b5 (.cells (ndB sb bh bl) 46))
        | fail)
      obtain ⟨g9, hg9⟩ : ∃ g, w5.heap.size = g := ⟨_, rfl⟩
      rw [hg9] at J5 ⊢
      change Code.wp _ _ _ _ (w5.alloc (.cells (ndB sb bh bl) 46))
      generalize w5.alloc (.cells (ndB sb bh bl) 46) = W5 at *
      have BS5 := BS4.call L5
      have BL5 := BL4.call L5
      clear b5 hg9 cN J4 BS4 BL4 hT4 L5
      have hS : ∀ u, Below W5.heap.size W5 u → (u.cell? ⟨g5, 6, none⟩ = some (.slice (some ⟨gs, 0, none⟩) 2 cs) ∧ u.cell? ⟨g5, 5, none⟩ = some (.int .u64 2) ∧ g5 < u.heap.size) ∧ (u.cell? ⟨gs, 0, none⟩ = some (.string sa) ∧ u.cell? ⟨gs, 1, none⟩ = some (.int .u64 ah) ∧ u.cell? ⟨gs, 2, none⟩ = some (.int .u64 al)) ∧ (u.cell? ⟨gs, 3, none⟩ = some (.string sb) ∧ u.cell? ⟨gs, 4, none⟩ = some (.int .u64 bh) ∧ u.cell? ⟨gs, 5, none⟩ = some (.int .u64 bl) ∧ gs < u.heap.size) ∧
        (u.cell? ⟨g9, 0, none⟩ = some (.string sb) ∧ u.cell? ⟨g9, 1, none⟩ = some (.int .u64 bh) ∧ u.cell? ⟨g9, 2, none⟩ = some (.int .u64 bl) ∧ g9 < u.heap.size) ∧ (u.cell? ⟨gl, 15, none⟩ = some (.bool false) ∧ u.cell? ⟨gl, 16, none⟩ = some (.string (ofL [100])) ∧ u.cell? ⟨gl, 17, none⟩ = some (.string ⟨#[]⟩) ∧ u.cell? ⟨gl, 18, none⟩ = some (.int .u64 0) ∧ u.cell? ⟨gl, 19, none⟩ = some (.int .u64 3) ∧ gl < u.heap.size) := fun u hu => by
        have K := J5.call hu
        have BS := BS5.call hu
        have BL := BL5.call hu
        exact ⟨⟨(K.box 1).read 6, (K.box 1).read 5, (K.box 1).inside⟩, ⟨BS.cell (i := 0) rfl (j := 0) (by decide), BS.cell (i := 0) rfl (j := 1) (by decide), BS.cell (i := 0) rfl (j := 2) (by decide)⟩, ⟨BS.cell (i := 1) rfl (j := 0) (by decide), BS.cell (i := 1) rfl (j := 1) (by decide), BS.cell (i := 1) rfl (j := 2) (by decide), BS.inside⟩,
          ⟨(K.box 0).read 0, (K.box 0).read 1, (K.box 0).read 2, (K.box 0).inside⟩, BL.cell (i := 3) (x := zD) rfl (j := 0) (by decide), BL.cell (i := 3) (x := zD) rfl (j := 1) (by decide), BL.cell (i := 3) (x := zD) rfl (j := 2) (by decide), BL.cell (i := 3) (x := zD) rfl (j := 3) (by decide), BL.cell (i := 3) (x := zD) rfl (j := 4) (by decide), BL.inside⟩
      have b0 := (Below.refl W5.heap.size W5).drew
      have hKw := chain hb1 J5.below
      have hK5 := hK.call hKw
      have hU5 := hU.call hKw
      refine wp_region_held_drew (S := fun u => (u.cell? ⟨g5, 6, none⟩ = some (.slice (some ⟨gs, 0, none⟩) 2 cs) ∧ u.cell? ⟨g5, 5, none⟩ = some (.int .u64 2) ∧ g5 < u.heap.size) ∧ (u.cell? ⟨gs, 0, none⟩ = some (.string sa) ∧ u.cell? ⟨gs, 1, none⟩ = some (.int .u64 ah) ∧ u.cell? ⟨gs, 2, none⟩ = some (.int .u64 al)) ∧ (u.cell? ⟨gs, 3, none⟩ = some (.string sb) ∧ u.cell? ⟨gs, 4, none⟩ = some (.int .u64 bh) ∧ u.cell? ⟨gs, 5, none⟩ = some (.int .u64 bl) ∧ gs < u.heap.size) ∧
        (u.cell? ⟨g9, 0, none⟩ = some (.string sb) ∧ u.cell? ⟨g9, 1, none⟩ = some (.int .u64 bh) ∧ u.cell? ⟨g9, 2, none⟩ = some (.int .u64 bl) ∧ g9 < u.heap.size) ∧ (u.cell? ⟨gl, 15, none⟩ = some (.bool false) ∧ u.cell? ⟨gl, 16, none⟩ = some (.string (ofL [100])) ∧ u.cell? ⟨gl, 17, none⟩ = some (.string ⟨#[]⟩) ∧ u.cell? ⟨gl, 18, none⟩ = some (.int .u64 0) ∧ u.cell? ⟨gl, 19, none⟩ = some (.int .u64 3) ∧ gl < u.heap.size)) (by kernel_rfl) (hS _ b0) (fun hHeld => ?_)
      generalize W5.drew = Wd at *
      refine wpAnyH_take (i := 0) (v := ?_) rfl (by kernel_rfl) (by kernel_rfl) (by kernel_rfl) (fun _ _ _ h => h) (Or.inl ⟨by rfl, ?_⟩) (by assumption) ?_
      rotate_left 1
      · intro w hSw; (try dsimp only at hSw); go_simp; try with_reducible rfl
      try simp only [Act.put, List.getElem_toArray, List.getElem_cons_succ, List.getElem_cons_zero, List.setIfInBounds_toArray, List.set_cons_zero, List.set_cons_succ]
      refine wpAnyH_take (i := 1) (v := ?_) rfl (by kernel_rfl) (by kernel_rfl) (by kernel_rfl) (fun _ _ _ h => h) (Or.inl ⟨by rfl, ?_⟩) (by assumption) ?_
      rotate_left 1
      · intro w hSw; (try dsimp only at hSw); go_simp; try with_reducible rfl
      try simp only [Act.put, List.getElem_toArray, List.getElem_cons_succ, List.getElem_cons_zero, List.setIfInBounds_toArray, List.set_cons_zero, List.set_cons_succ]
      refine wpAnyH_take (i := 2) (v := ?_) rfl (by kernel_rfl) (by kernel_rfl) (by kernel_rfl) (fun _ _ _ h => h) (Or.inl ⟨by rfl, ?_⟩) (by assumption) ?_
      rotate_left 1
      · intro w hSw; (try dsimp only at hSw); go_simp; try with_reducible rfl
      try simp only [Act.put, List.getElem_toArray, List.getElem_cons_succ, List.getElem_cons_zero, List.setIfInBounds_toArray, List.set_cons_zero, List.set_cons_succ]
      refine wpAnyH_take (i := 3) (v := ?_) rfl (by kernel_rfl) (by kernel_rfl) (by kernel_rfl) (fun _ _ _ h => h) (Or.inl ⟨by rfl, ?_⟩) (by assumption) ?_
      rotate_left 1
      · intro w hSw; (try dsimp only at hSw); go_simp; try with_reducible rfl
      try simp only [Act.put, List.getElem_toArray, List.getElem_cons_succ, List.getElem_cons_zero, List.setIfInBounds_toArray, List.set_cons_zero, List.set_cons_succ]
      refine wpAnyH_take (i := 4) (v := ?_) rfl (by kernel_rfl) (by kernel_rfl) (by kernel_rfl) (fun _ _ _ h => h) (Or.inl ⟨by rfl, ?_⟩) (by assumption) ?_
      rotate_left 1
      · intro w hSw; (try dsimp only at hSw); go_simp; try with_reducible rfl
      try simp only [Act.put, List.getElem_toArray, List.getElem_cons_succ, List.getElem_cons_zero, List.setIfInBounds_toArray, List.set_cons_zero, List.set_cons_succ]
      refine wpAnyH_take (i := 5) (v := ?_) rfl (by kernel_rfl) (by kernel_rfl) (by kernel_rfl) (fun _ _ _ h => h) (Or.inl ⟨by rfl, ?_⟩) (by assumption) ?_
      rotate_left 1
      · intro w hSw; (try dsimp only at hSw); go_simp; try with_reducible rfl
      try simp only [Act.put, List.getElem_toArray, List.getElem_cons_succ, List.getElem_cons_zero, List.setIfInBounds_toArray, List.set_cons_zero, List.set_cons_succ]
      refine wpAnyH_take (i := 6) (v := ?_) rfl (by kernel_rfl) (by kernel_rfl) (by kernel_rfl) (fun _ _ _ h => h) (Or.inl ⟨by rfl, ?_⟩) (by assumption) ?_
      rotate_left 1
      · intro w hSw; (try dsimp only at hSw); go_simp; try with_reducible rfl
      try simp only [Act.put, List.getElem_toArray, List.getElem_cons_succ, List.getElem_cons_zero, List.setIfInBounds_toArray, List.set_cons_zero, List.set_cons_succ]
      refine wpAnyH_take (i := 7) (v := ?_) rfl (by kernel_rfl) (by kernel_rfl) (by kernel_rfl) (fun _ _ _ h => h) (Or.inl ⟨by rfl, ?_⟩) (by assumption) ?_
      rotate_left 1
      · intro w hSw; (try dsimp only at hSw); go_simp; try with_reducible rfl
      try simp only [Act.put, List.getElem_toArray, List.getElem_cons_succ, List.getElem_cons_zero, List.setIfInBounds_toArray, List.set_cons_zero, List.set_cons_succ]
      refine wpAnyH_ready (rs := [8]) (by kernel_rfl) (by simp) (AllReadyH.cons rfl (fun K hK => ?_) AllReadyH.nil)
      go_simp
      go_at_call 13
      refine (cL _ (hK5.call b0) (hU5.call b0)).mono ?_
      rintro e w6 ⟨rfl, b6⟩
      have b1 := chain b0 b6
      try simp only []
      refine hK.out _ _ (hS _ b1) (fun hHeld => ?_)
      clear hK K
      try simp only [Act.put, List.getElem_toArray, List.getElem_cons_succ, List.getElem_cons_zero, List.setIfInBounds_toArray, List.set_cons_zero, List.set_cons_succ]
      refine wpAnyH_take (i := 9) (v := ?_) rfl (by kernel_rfl) (by kernel_rfl) (by kernel_rfl) (fun _ _ _ h => h) (Or.inl ⟨by rfl, ?_⟩) (by assumption) ?_
      rotate_left 1
      · intro w hSw; (try dsimp only at hSw); go_simp; try with_reducible rfl
      try simp only [Act.put, List.getElem_toArray, List.getElem_cons_succ, List.getElem_cons_zero, List.setIfInBounds_toArray, List.set_cons_zero, List.set_cons_succ]
      refine wpAnyH_take (i := 10) (v := ?_) rfl (by kernel_rfl) (by kernel_rfl) (by kernel_rfl) (fun _ _ _ h => h) (Or.inl ⟨by rfl, ?_⟩) (by assumption) ?_
      rotate_left 1
      · intro w hSw; (try dsimp only at hSw); go_simp; try with_reducible rfl
      try simp only [Act.put, List.getElem_toArray, List.getElem_cons_succ, List.getElem_cons_zero, List.setIfInBounds_toArray, List.set_cons_zero, List.set_cons_succ]
      refine wpAnyH_take (i := 11) (v := ?_) rfl (by kernel_rfl) (by kernel_rfl) (by kernel_rfl) (fun _ _ _ h => h) (Or.inl ⟨by rfl, ?_⟩) (by assumption) ?_
      rotate_left 1
      · intro w hSw; (try dsimp only at hSw); go_simp; try with_reducible rfl
      try simp only [Act.put, List.getElem_toArray, List.getElem_cons_succ, List.getElem_cons_zero, List.setIfInBounds_toArray, List.set_cons_zero, List.set_cons_succ]
      refine wpAnyH_take (i := 12) (v := ?_) rfl (by kernel_rfl) (by kernel_rfl) (by kernel_rfl) (fun _ _ _ h => h) (Or.inl ⟨by rfl, ?_⟩) (by assumption) ?_
      rotate_left 1
      · intro w hSw; (try dsimp only at hSw); go_simp; try with_reducible rfl
      try simp only [Act.put, List.getElem_toArray, List.getElem_cons_succ, List.getElem_cons_zero, List.setIfInBounds_toArray, List.set_cons_zero, List.set_cons_succ]
      refine wpAnyH_take (i := 13) (v := ?_) rfl (by kernel_rfl) (by kernel_rfl) (by kernel_rfl) (fun _ _ _ h => h) (Or.inl ⟨by rfl, ?_⟩) (by assumption) ?_
      rotate_left 1
      · intro w hSw; (try dsimp only at hSw); go_simp; try with_reducible rfl
      try simp only [Act.put, List.getElem_toArray, List.getElem_cons_succ, List.getElem_cons_zero, List.setIfInBounds_toArray, List.set_cons_zero, List.set_cons_succ]
      refine wpAnyH_take (i := 14) (v := ?_) rfl (by kernel_rfl) (by kernel_rfl) (by kernel_rfl) (fun _ _ _ h => h) (Or.inl ⟨by rfl, ?_⟩) (by assumption) ?_
      rotate_left 1
      · intro w hSw; (try dsimp only at hSw); go_simp; try with_reducible rfl
      try simp only [Act.put, List.getElem_toArray, List.getElem_cons_succ, List.getElem_cons_zero, List.setIfInBounds_toArray, List.set_cons_zero, List.set_cons_succ]
      refine wpAnyH_take (i := 15) (v := ?_) rfl (by kernel_rfl) (by kernel_rfl) (by kernel_rfl) (fun _ _ _ h => h) (Or.inl ⟨by rfl, ?_⟩) (by assumption) ?_
      rotate_left 1
      · intro w hSw; (try dsimp only at hSw); go_simp; try with_reducible rfl
      try simp only [Act.put, List.getElem_toArray, List.getElem_cons_succ, List.getElem_cons_zero, List.setIfInBounds_toArray, List.set_cons_zero, List.set_cons_succ]
      refine wpAnyH_take (i := 16) (v := ?_) rfl (by kernel_rfl) (by kernel_rfl) (by kernel_rfl) (fun _ _ _ h => h) (Or.inl ⟨by rfl, ?_⟩) (by assumption) ?_
      rotate_left 1
      · intro w hSw; (try dsimp only at hSw); go_simp; try with_reducible rfl
      try simp only [Act.put, List.getElem_toArray, List.getElem_cons_succ, List.getElem_cons_zero, List.setIfInBounds_toArray, List.set_cons_zero, List.set_cons_succ]
      refine wpAnyH_take (i := 17) (v := ?_) rfl (by kernel_rfl) (by kernel_rfl) (by kernel_rfl) (fun _ _ _ h => h) (Or.inl ⟨by rfl, ?_⟩) (by assumption) ?_
      rotate_left 1
      · intro w hSw; (try dsimp only at hSw); go_simp; try with_reducible rfl
      try simp only [Act.put, List.getElem_toArray, List.getElem_cons_succ, List.getElem_cons_zero, List.setIfInBounds_toArray, List.set_cons_zero, List.set_cons_succ]
      refine wpAnyH_take (i := 18) (v := ?_) rfl (by kernel_rfl) (by kernel_rfl) (by kernel_rfl) (fun _ _ _ h => h) (Or.inl ⟨by rfl, ?_⟩) (by assumption) ?_
      rotate_left 1
      · intro w hSw; (try dsimp only at hSw); go_simp; try with_reducible rfl
      try simp only [Act.put, List.getElem_toArray, List.getElem_cons_succ, List.getElem_cons_zero, List.setIfInBounds_toArray, List.set_cons_zero, List.set_cons_succ]
      refine wpAnyH_take (i := 19) (v := ?_) rfl (by kernel_rfl) (by kernel_rfl) (by kernel_rfl) (fun _ _ _ h => h) (Or.inl ⟨by rfl, ?_⟩) (by assumption) ?_
      rotate_left 1
      · intro w hSw; (try dsimp only at hSw); go_simp; try with_reducible rfl
      try simp only [Act.put, List.getElem_toArray, List.getElem_cons_succ, List.getElem_cons_zero, List.setIfInBounds_toArray, List.set_cons_zero, List.set_cons_succ]
      refine wpAnyH_take (i := 20) (v := ?_) rfl (by kernel_rfl) (by kernel_rfl) (by kernel_rfl) (fun _ _ _ h => h) (Or.inl ⟨by rfl, ?_⟩) (by assumption) ?_
      rotate_left 1
      · intro w hSw; (try dsimp only at hSw); go_simp; try with_reducible rfl
      try simp only [Act.put, List.getElem_toArray, List.getElem_cons_succ, List.getElem_cons_zero, List.setIfInBounds_toArray, List.set_cons_zero, List.set_cons_succ]
      refine wpAnyH_take (i := 21) (v := ?_) rfl (by kernel_rfl) (by kernel_rfl) (by kernel_rfl) (fun _ _ _ h => h) (Or.inl ⟨by rfl, ?_⟩) (by assumption) ?_
      rotate_left 1
      · intro w hSw; (try dsimp only at hSw); go_simp; try with_reducible rfl
      try simp only [Act.put, List.getElem_toArray, List.getElem_cons_succ, List.getElem_cons_zero, List.setIfInBounds_toArray, List.set_cons_zero, List.set_cons_succ]
      refine wpAnyH_ready (rs := [22]) (by kernel_rfl) (by simp) (AllReadyH.cons rfl (fun K hK => ?_) AllReadyH.nil)
      go_simp
      go_at_call 11
      refine (cS2 _ _ _ (BS5.call b1).row).mono ?_
      rintro e w7 ⟨rfl, b7⟩
      have b2 := chain b1 b7
      try simp only []
      refine hK.out _ _ (hS _ b2) (fun hHeld => ?_)
      clear hK K
      try simp only [Act.put, List.getElem_toArray, List.getElem_cons_succ, List.getElem_cons_zero, List.setIfInBounds_toArray, List.set_cons_zero, List.set_cons_succ]
      refine wpAnyH_take (i := 23) (v := ?_) rfl (by kernel_rfl) (by kernel_rfl) (by kernel_rfl) (fun _ _ _ h => h) (Or.inl ⟨by rfl, ?_⟩) (by assumption) ?_
      rotate_left 1
      · intro w hSw; (try dsimp only at hSw); go_simp; try with_reducible rfl
      try simp only [Act.put, List.getElem_toArray, List.getElem_cons_succ, List.getElem_cons_zero, List.setIfInBounds_toArray, List.set_cons_zero, List.set_cons_succ]
      refine wpAnyH_take (i := 24) (v := ?_) rfl (by kernel_rfl) (by kernel_rfl) (by kernel_rfl) (fun _ _ _ h => h) (Or.inl ⟨by rfl, ?_⟩) (by assumption) ?_
      rotate_left 1
      · intro w hSw; (try dsimp only at hSw); go_simp; try with_reducible rfl
      try simp only [Act.put, List.getElem_toArray, List.getElem_cons_succ, List.getElem_cons_zero, List.setIfInBounds_toArray, List.set_cons_zero, List.set_cons_succ]
      refine wpAnyH_take (i := 25) (v := ?_) rfl (by kernel_rfl) (by kernel_rfl) (by kernel_rfl) (fun _ _ _ h => h) (Or.inl ⟨by rfl, ?_⟩) (by assumption) ?_
      rotate_left 1
      · intro w hSw; (try dsimp only at hSw); go_simp; try with_reducible rfl
      try simp only [Act.put, List.getElem_toArray, List.getElem_cons_succ, List.getElem_cons_zero, List.setIfInBounds_toArray, List.set_cons_zero, List.set_cons_succ]
      refine wpAnyH_take (i := 26) (v := ?_) rfl (by kernel_rfl) (by kernel_rfl) (by kernel_rfl) (fun _ _ _ h => h) (Or.inl ⟨by rfl, ?_⟩) (by assumption) ?_
      rotate_left 1
      · intro w hSw; (try dsimp only at hSw); go_simp; try with_reducible rfl
      try simp only [Act.put, List.getElem_toArray, List.getElem_cons_succ, List.getElem_cons_zero, List.setIfInBounds_toArray, List.set_cons_zero, List.set_cons_succ]
      refine wpAnyH_take (i := 27) (v := ?_) rfl (by kernel_rfl) (by kernel_rfl) (by kernel_rfl) (fun _ _ _ h => h) (Or.inl ⟨by rfl, ?_⟩) (by assumption) ?_
      rotate_left 1
      · intro w hSw; (try dsimp only at hSw); go_simp; try with_reducible rfl
      try simp only [Act.put, List.getElem_toArray, List.getElem_cons_succ, List.getElem_cons_zero, List.setIfInBounds_toArray, List.set_cons_zero, List.set_cons_succ]
      refine wpAnyH_ready (rs := [28]) (by kernel_rfl) (by simp) (AllReadyH.cons rfl (fun K hK => ?_) AllReadyH.nil)
      go_simp
      go_at_call 11
      refine (cS1 _ _ _ (BS5.call b2).row).mono ?_
      rintro e w8 ⟨rfl, b8⟩
      have b3 := chain b2 b8
      try simp only []
      refine hK.out _ _ (hS _ b3) (fun hHeld => ?_)
      clear hK K
      try simp only [Act.put, List.getElem_toArray, List.getElem_cons_succ, List.getElem_cons_zero, List.setIfInBounds_toArray, List.set_cons_zero, List.set_cons_succ]
      refine wpAnyH_take (i := 29) (v := ?_) rfl (by kernel_rfl) (by kernel_rfl) (by kernel_rfl) (fun _ _ _ h => h) (Or.inl ⟨by rfl, ?_⟩) (by assumption) ?_
      rotate_left 1
      · intro w hSw; (try dsimp only at hSw); go_simp; try with_reducible rfl
      try simp only [Act.put, List.getElem_toArray, List.getElem_cons_succ, List.getElem_cons_zero, List.setIfInBounds_toArray, List.set_cons_zero, List.set_cons_succ]
      refine wpAnyH_take (i := 30) (v := ?_) rfl (by kernel_rfl) (by kernel_rfl) (by kernel_rfl) (fun _ _ _ h => h) (Or.inl ⟨by rfl, ?_⟩) (by assumption) ?_
      rotate_left 1
      · intro w hSw; (try dsimp only at hSw); go_simp; try with_reducible rfl
      try simp only [Act.put, List.getElem_toArray, List.getElem_cons_succ, List.getElem_cons_zero, List.setIfInBounds_toArray, List.set_cons_zero, List.set_cons_succ]
      refine wpAnyH_take (i := 31) (v := ?_) rfl (by kernel_rfl) (by kernel_rfl) (by kernel_rfl) (fun _ _ _ h => h) (Or.inl ⟨by rfl, ?_⟩) (by assumption) ?_
      rotate_left 1
      · intro w hSw; (try dsimp only at hSw); go_simp; try with_reducible rfl
      try simp only [Act.put, List.getElem_toArray, List.getElem_cons_succ, List.getElem_cons_zero, List.setIfInBounds_toArray, List.set_cons_zero, List.set_cons_succ]
      refine wpAnyH_take (i := 32) (v := ?_) rfl (by kernel_rfl) (by kernel_rfl) (by kernel_rfl) (fun _ _ _ h => h) (Or.inl ⟨by rfl, ?_⟩) (by assumption) ?_
      rotate_left 1
      · intro w hSw; (try dsimp only at hSw); go_simp; try with_reducible rfl
      try simp only [Act.put, List.getElem_toArray, List.getElem_cons_succ, List.getElem_cons_zero, List.setIfInBounds_toArray, List.set_cons_zero, List.set_cons_succ]
      refine wpAnyH_take (i := 33) (v := ?_) rfl (by kernel_rfl) (by kernel_rfl) (by kernel_rfl) (fun _ _ _ h => h) (Or.inl ⟨by rfl, ?_⟩) (by assumption) ?_
      rotate_left 1
      · intro w hSw; (try dsimp only at hSw); go_simp; try with_reducible rfl
      try simp only [Act.put, List.getElem_toArray, List.getElem_cons_succ, List.getElem_cons_zero, List.setIfInBounds_toArray, List.set_cons_zero, List.set_cons_succ]
      refine wpAnyH_ready (rs := [34]) (by kernel_rfl) (by simp) (AllReadyH.cons rfl (fun K hK => ?_) AllReadyH.nil)
      go_simp
      go_at_call 11
      refine (cS3 _ _ _ (BS5.call b3).row).mono ?_
      rintro e w9 ⟨rfl, b9⟩
      have b4 := chain b3 b9
      try simp only []
      refine hK.out _ _ (hS _ b4) (fun hHeld => ?_)
      clear hK K
      try simp only [Act.put, List.getElem_toArray, List.getElem_cons_succ, List.getElem_cons_zero, List.setIfInBounds_toArray, List.set_cons_zero, List.set_cons_succ]
      refine wpAnyH_take (i := 35) (v := ?_) rfl (by kernel_rfl) (by kernel_rfl) (by kernel_rfl) (fun _ _ _ h => h) (Or.inl ⟨by rfl, ?_⟩) (by assumption) ?_
      rotate_left 1
      · intro w hSw; (try dsimp only at hSw); go_simp; try with_reducible rfl
      try simp only [Act.put, List.getElem_toArray, List.getElem_cons_succ, List.getElem_cons_zero, List.setIfInBounds_toArray, List.set_cons_zero, List.set_cons_succ]
      refine wpAnyH_take (i := 36) (v := ?_) rfl (by kernel_rfl) (by kernel_rfl) (by kernel_rfl) (fun _ _ _ h => h) (Or.inl ⟨by rfl, ?_⟩) (by assumption) ?_
      rotate_left 1
      · intro w hSw; (try dsimp only at hSw); go_simp; try with_reducible rfl
      try simp only [Act.put, List.getElem_toArray, List.getElem_cons_succ, List.getElem_cons_zero, List.setIfInBounds_toArray, List.set_cons_zero, List.set_cons_succ]
      refine wpAnyH_take (i := 37) (v := ?_) rfl (by kernel_rfl) (by kernel_rfl) (by kernel_rfl) (fun _ _ _ h => h) (Or.inl ⟨by rfl, ?_⟩) (by assumption) ?_
      rotate_left 1
      · intro w hSw; (try dsimp only at hSw); go_simp; try with_reducible rfl
      try simp only [Act.put, List.getElem_toArray, List.getElem_cons_succ, List.getElem_cons_zero, List.setIfInBounds_toArray, List.set_cons_zero, List.set_cons_succ]
      refine wpAnyH_take (i := 38) (v := ?_) rfl (by kernel_rfl) (by kernel_rfl) (by kernel_rfl) (fun _ _ _ h => h) (Or.inl ⟨by rfl, ?_⟩) (by assumption) ?_
      rotate_left 1
      · intro w hSw; (try dsimp only at hSw); go_simp; try with_reducible rfl
      try simp only [Act.put, List.getElem_toArray, List.getElem_cons_succ, List.getElem_cons_zero, List.setIfInBounds_toArray, List.set_cons_zero, List.set_cons_succ]
      refine wpAnyH_take (i := 39) (v := ?_) rfl (by kernel_rfl) (by kernel_rfl) (by kernel_rfl) (fun _ _ _ h => h) (Or.inl ⟨by rfl, ?_⟩) (by assumption) ?_
      rotate_left 1
      · intro w hSw; (try dsimp only at hSw); go_simp; try with_reducible rfl
      try simp only [Act.put, List.getElem_toArray, List.getElem_cons_succ, List.getElem_cons_zero, List.setIfInBounds_toArray, List.set_cons_zero, List.set_cons_succ]
      refine wpAnyH_ready (rs := [40]) (by kernel_rfl) (by simp) (AllReadyH.cons rfl (fun K hK => ?_) AllReadyH.nil)
      go_simp
      go_at_call 11
      refine (cS4 _ _ _ (BS5.call b4).row).mono ?_
      rintro e w10 ⟨rfl, b10⟩
      have b5 := chain b4 b10
      try simp only []
      refine hK.out _ _ (hS _ b5) (fun hHeld => ?_)
      clear hK K
      try simp only [Act.put, List.getElem_toArray, List.getElem_cons_succ, List.getElem_cons_zero, List.setIfInBounds_toArray, List.set_cons_zero, List.set_cons_succ]
      refine wpAnyH_take (i := 41) (v := ?_) rfl (by kernel_rfl) (by kernel_rfl) (by kernel_rfl) (fun _ _ _ h => h) (Or.inl ⟨by rfl, ?_⟩) (by assumption) ?_
      rotate_left 1
      · intro w hSw; (try dsimp only at hSw); go_simp; try with_reducible rfl
      try simp only [Act.put, List.getElem_toArray, List.getElem_cons_succ, List.getElem_cons_zero, List.setIfInBounds_toArray, List.set_cons_zero, List.set_cons_succ]
      refine wpAnyH_take (i := 42) (v := ?_) rfl (by kernel_rfl) (by kernel_rfl) (by kernel_rfl) (fun _ _ _ h => h) (Or.inl ⟨by rfl, ?_⟩) (by assumption) ?_
      rotate_left 1
      · intro w hSw; (try dsimp only at hSw); go_simp; try with_reducible rfl
      try simp only [Act.put, List.getElem_toArray, List.getElem_cons_succ, List.getElem_cons_zero, List.setIfInBounds_toArray, List.set_cons_zero, List.set_cons_succ]
      refine wpAnyH_take (i := 43) (v := ?_) rfl (by kernel_rfl) (by kernel_rfl) (by kernel_rfl) (fun _ _ _ h => h) (Or.inl ⟨by rfl, ?_⟩) (by assumption) ?_
      rotate_left 1
      · intro w hSw; (try dsimp only at hSw); go_simp; try with_reducible rfl
      try simp only [Act.put, List.getElem_toArray, List.getElem_cons_succ, List.getElem_cons_zero, List.setIfInBounds_toArray, List.set_cons_zero, List.set_cons_succ]
      refine wpAnyH_done (by kernel_rfl) ?_ _
      go_wp2
      go_ret
      exact ⟨rfl, chain hKw b5⟩
end Go.Proofs.YtjndabnegmecmaaDoor
