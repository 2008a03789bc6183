/-
  The law VerifySpoilt, where nothing is asked: more than is gone through, or leaves of which there is no tree.
-/
import Derived.Test.YtkecekfapiegjaaDoorM17Opn
import Derived.Test.YtkecekfapiegjaaDoorU17Awak
namespace Go.Proofs.YtkecekfapiegjaaDoor
set_option linter.unusedVariables false
set_option linter.unusedSimpArgs false
set_option maxRecDepth 10000
open Go.ChangeShapes Go.WideShapes Go.ChangeAt Go.RowKit

set_option maxRecDepth 100000 in
set_option maxHeartbeats 8000000 in
theorem verifySpoilt_rest (n : Int) (A : Option Addr) (c : Nat) (l : List Lf) (pz : Nat) (x : Lf) (hxf : x.fine15) (lv : Nat) (sd : Nd) (hc : l.length ≤ c) (hcm : c ≤ 9223372036854775807) (hs : ∀ x ∈ l, (x.id.size ≤ 9223372036854775807 ∧ x.salt.size ≤ 9223372036854775807) ∧ Word x.h ∧ Word x.l)
    (hor : greatLf l = true ∨ greatLf [x] = true ∨ 60 < sd.hash.size ∨ newE n l ≠ 0) (w : World) (hR : lfS.Row w w.heap.size A l) (hK : Tab w) (hU : TabU w) :
    Calls Tryd.prog 8 #[.int .i64 n, .slice A l.length c, .int .u16 pz, x.val, .int .u8 lv, sd.val] w (Tells (.bool true) w.heap.size w) := by
  have cW := fun u hu hv => awake17_any u hu hv
  have cG := fun u hu => great15_any A c l (by omega) (fun x hx => (hs x hx).1) u hu
  have cG1 := fun (u : World) hu => great15_any (some ⟨u.heap.size, 0, none⟩) 1 [x] (by simp) (fun y hy => by rw [List.mem_singleton.1 hy]; exact hxf.1) (u.alloc (.cells (lfS.flat [x]).toArray 34)) hu
  have hrow := fun u => lf_rowL u [x]
  have c1 := fun u hE hR hT hV => new15_err n A c l u (by omega) (fun x hx => (hs x hx).1) (fun x hx => (hs x hx).2) hE hR hT hV
  generalize newE n l = E at *
  obtain ⟨gl, hgl⟩ : ∃ g, greatLf l = g := ⟨_, rfl⟩
  obtain ⟨gr, hgr⟩ : ∃ g, greatLf [x] = g := ⟨_, rfl⟩
  rw [hgl] at cG hor
  rw [hgr] at cG1 hor
  obtain ⟨xp, xi, xs, xh, xl⟩ := x
  obtain ⟨ds, dh, dl⟩ := sd
  obtain ⟨Z, hZ⟩ : ∃ Z, ds.size = Z := ⟨_, rfl⟩
  simp only [hZ] at hor
  simp only [Lf.val, List.length_cons, List.length_nil, Nat.zero_add] at cG1
  show Calls _ _ #[_, _, _, .agg (lfB xp xi xs xh xl), _, .agg (ndB ds dh dl)] _ _
  obtain ⟨gx, hgx⟩ : ∃ g, w.heap.size = g := ⟨_, rfl⟩
  have H0 := ((Has.start w).addAt 34 (lfB xp xi xs xh xl) (g := gx) hgx).addAt 49 (ndB ds dh dl) (g := gx + 1) (by simp [hgx])
  clear hgl hgr
  go_enter Tryd.func8, Tryd.ntmps8
  go_upto_region 1 with fail
  change Code.wp _ _ _ _ ((w.alloc (.cells (lfB xp xi xs xh xl) 34)).alloc (.cells (ndB ds dh dl) 49))
  generalize (w.alloc (.cells (lfB xp xi xs xh xl) 34)).alloc (.cells (ndB ds dh dl) 49) = W0 at *
  go_upto_region 3 with (first
    | (go_at_call 18; refine (cW _ (hK.call H0.below) (hU.call H0.below)).mono ?_; rintro e w1 ⟨rfl, b1⟩; have K1 := H0.call b1)
    | fail)
  obtain ⟨⟨x0, x1, x2, x3, x4⟩, -, xin⟩ := (K1.box 1).five0
  have cG2 := cG1 w1 (hrow w1)
  have cG2 : Calls Tryd.prog 19 #[.slice (some ⟨w1.heap.size, 0, none⟩) 1 1] (w1.alloc (.cells (lfB xp xi xs xh xl) 34)) (Plain (.bool gr) (w1.alloc (.cells (lfB xp xi xs xh xl) 34))) := cG2
  have K2 := K1.past (.cells (lfB xp xi xs xh xl) 34)
  obtain ⟨⟨s0, s1, s2⟩, -, -, -, sin⟩ := (K2.box 0).three0
  clear cG1 hrow cW H0 b1
  cases gl with
  | true =>
    go_wp2_with (first
      | (go_at_call 19; ((with_reducible refine (cG _ (hR.on K1.below)).mono ?_); rintro e w2 ⟨rfl, rfl⟩))
      | fail)
    go_ret
    exact ⟨rfl, by have := K1.below; first | exact this | (rw [← hgx]; exact this)⟩
  | false =>
    cases gr with
    | true =>
      go_wp2_with (first
        | (go_at_call 19; ((with_reducible refine (cG _ (hR.on K1.below)).mono ?_); rintro e w2 ⟨rfl, rfl⟩))
        | (go_at_call 19; ((with_reducible refine cG2.mono ?_); rintro e w2 ⟨rfl, rfl⟩))
        | fail)
      go_ret
      exact ⟨rfl, by have := K2.below; first | exact this | (rw [← hgx]; exact this)⟩
    | false =>
      by_cases hZ60 : 60 < Z
      · have hZi : (60 : Int) < (Z : Int) := by omega
        go_wp2_with (first
          | (go_at_call 19; ((with_reducible refine (cG _ (hR.on K1.below)).mono ?_); rintro e w2 ⟨rfl, rfl⟩))
          | (go_at_call 19; ((with_reducible refine cG2.mono ?_); rintro e w2 ⟨rfl, rfl⟩))
          | fail)
        go_ret
        exact ⟨rfl, by have := K2.below; first | exact this | (rw [← hgx]; exact this)⟩
      · have hZi : ¬ (60 : Int) < (Z : Int) := by omega
        have hE : E ≠ 0 := by
          rcases hor with h | h | h | h
          · cases h
          · cases h
          · omega
          · exact h
        have c1' := fun u hR hT hV => c1 u hE hR hT hV
        have q0 : (E != 0) = true := bne_iff_ne.2 hE
        clear c1 hor
        go_wp2_with (first
          | (go_at_call 19; ((with_reducible refine (cG _ (hR.on K1.below)).mono ?_); rintro e w2 ⟨rfl, rfl⟩))
          | (go_at_call 19; ((with_reducible refine cG2.mono ?_); rintro e w2 ⟨rfl, rfl⟩))
          | (go_at_call 20; refine (c1' _ (hR.on K2.below) (hK.call K2.below) (hU.call K2.below)).mono ?_; rintro e w3 ⟨rfl, b3⟩; have K3 := K2.call b3)
          | fail)
        go_ret
        exact ⟨rfl, by have := K3.below; first | exact this | (rw [← hgx]; exact this)⟩
end Go.Proofs.YtkecekfapiegjaaDoor
