/- Several of my texts, laid as one. -/
import Derived.Test.YtmflhodiibjpnaaGreatDoorM13Fn
import Derived.Test.YtmflhodiibjpnaaGreatDoorW7Leaf
/-
  pack, walked: how each sort is written.
-/
namespace Go.Proofs.YtmflhodiibjpnaaGreatDoor
set_option linter.unusedVariables false
set_option linter.unusedSimpArgs false
set_option maxRecDepth 10000
open Go.RowKit

theorem putB_app (o : Option ByteArray) (a b : List UInt8) : putB (putB o (ofL a)) (ofL b) = putB o (ofL (a ++ b)) := by rw [putB_two, ofL_app]
/-- What is written of a thing. -/
abbrev Puts (k : FuncId) (args : Array Value) (w : World) (g : Nat) (o : Option ByteArray) (l : List UInt8) : Prop :=
  Calls Tryz.prog k args w fun e w' => e = .returned (.tuple #[]) ∧ OutS w' g (putB o (ofL l)) ∧ Off (One g) w w'
set_option maxHeartbeats 1000000 in
theorem putR_any (g : Nat) (o : Option ByteArray) (x : RtP) (hs : x.hash.size ≤ 4611686018427387903) (hw : Word x.h ∧ Word x.l) (w : World) (h : OutS w g o) : Puts 86 #[.pointer (some ⟨g, 0, none⟩), x.val] w g o (rtY x) := by
  obtain ⟨s, hh, l, n⟩ := x
  simp only at hs hw
  have c1 := fun u hu => out_text g o s hs u hu
  have c2 := fun u hu => out_wide g (putB o (ofL (textL s))) hh l hw.1 hw.2 u hu
  have c3 := fun u hu => out_num g (putB o (ofL (textL s ++ wideL hh l))) (n % 18446744073709551616) ⟨by omega, by omega⟩ u hu
  rw [putB_app] at c2 c3
  rw [show textL s ++ wideL hh l ++ wideL 0 (n % 18446744073709551616) = rtY ⟨s, hh, l, n⟩ from rfl] at c3
  have hwr : IntKind.u64.wrap n = n % 18446744073709551616 := IntKind.wrap_u64 n
  generalize n % 18446744073709551616 = m at *
  generalize rtY ⟨s, hh, l, n⟩ = R at *
  generalize textL s ++ wideL hh l = T2 at *
  generalize textL s = T1 at *
  show Puts _ #[_, .agg (rtB s hh l n)] _ _ _ _
  have W0 := (Wp.start h).add 26 (rtB s hh l n)
  go_enter Tryz.func86, Tryz.ntmps86
  go_upto_region 1 with fail
  change Code.wp _ _ _ _ (w.alloc (.cells (rtB s hh l n) 26))
  have hL : Below w.heap.size w (w.alloc (.cells (rtB s hh l n) 26)) := chainA (Below.refl _ _) _
  generalize w.alloc (.cells (rtB s hh l n) 26) = V0 at *
  obtain ⟨⟨q0, q1, q2, q3⟩, -, hin⟩ := (W0.box 0).four
  go_upto_region 2 with (first | (go_at_call 87; refine (c1 _ W0.outS).mono ?_; rintro e w1 ⟨rfl, s1, k1⟩) | fail)
  have W1 := W0.put s1 k1
  obtain ⟨⟨q0, q1, q2, q3⟩, -, hin⟩ := (W1.box 0).four
  go_upto_region 3 with (first | (go_at_call 88; refine (c2 _ W1.outS).mono ?_; rintro e w2 ⟨rfl, s2, k2⟩) | fail)
  have W2 := W1.put s2 k2
  obtain ⟨⟨q0, q1, q2, q3⟩, -, hin⟩ := (W2.box 0).four
  go_wp2_with (first | (go_at_call 89; refine (c3 _ W2.outS).mono ?_; rintro e w3 ⟨rfl, s3, k3⟩) | fail)
  go_end0
  exact ⟨rfl, s3, (W2.put s3 k3).off⟩
set_option maxHeartbeats 1000000 in
theorem putL_any (g : Nat) (o : Option ByteArray) (x : Lf) (h1 : x.id.size ≤ 4611686018427387903) (h2 : x.salt.size ≤ 4611686018427387903) (hw : x.words) (w : World) (h : OutS w g o) : Puts 97 #[.pointer (some ⟨g, 0, none⟩), x.val] w g o (lfY x) := by
  obtain ⟨p, i, s, hh, l⟩ := x
  simp only at h1 h2
  have c0 := fun u hu => out_flag g o p u hu
  have c1 := fun u hu => out_text g (putB o (ofL [b01 p])) i h1 u hu
  have c2 := fun u hu => out_text g (putB o (ofL ([b01 p] ++ textL i))) s h2 u hu
  have c3 := fun u hu => out_wide g (putB o (ofL ([b01 p] ++ textL i ++ textL s))) hh l hw.1 hw.2 u hu
  rw [putB_app] at c1 c2 c3
  rw [show [b01 p] ++ textL i ++ textL s ++ wideL hh l = lfY ⟨p, i, s, hh, l⟩ by simp [lfY]] at c3
  generalize lfY ⟨p, i, s, hh, l⟩ = R at *
  generalize [b01 p] ++ textL i ++ textL s = T3 at *
  generalize [b01 p] ++ textL i = T2 at *
  generalize [b01 p] = T1 at *
  show Puts _ #[_, .agg (lfB p i s hh l)] _ _ _ _
  have W0 := (Wp.start h).add 28 (lfB p i s hh l)
  go_enter Tryz.func97, Tryz.ntmps97
  go_upto_region 1 with fail
  change Code.wp _ _ _ _ (w.alloc (.cells (lfB p i s hh l) 28))
  have hL : Below w.heap.size w (w.alloc (.cells (lfB p i s hh l) 28)) := chainA (Below.refl _ _) _
  generalize w.alloc (.cells (lfB p i s hh l) 28) = V0 at *
  obtain ⟨⟨q0, q1, q2, q3, q4⟩, -, hin⟩ := (W0.box 0).five0
  go_upto_region 2 with (first | (go_at_call 98; refine (c0 _ W0.outS).mono ?_; rintro e w1 ⟨rfl, s1, k1⟩) | fail)
  have W1 := W0.put s1 k1
  obtain ⟨⟨q0, q1, q2, q3, q4⟩, -, hin⟩ := (W1.box 0).five0
  clear W0 s1 k1
  go_upto_region 3 with (first | (go_at_call 87; refine (c1 _ W1.outS).mono ?_; rintro e w2 ⟨rfl, s2, k2⟩) | fail)
  have W2 := W1.put s2 k2
  obtain ⟨⟨q0, q1, q2, q3, q4⟩, -, hin⟩ := (W2.box 0).five0
  clear W1 s2 k2
  go_upto_region 4 with (first | (go_at_call 87; refine (c2 _ W2.outS).mono ?_; rintro e w3 ⟨rfl, s3, k3⟩) | fail)
  have W3 := W2.put s3 k3
  obtain ⟨⟨q0, q1, q2, q3, q4⟩, -, hin⟩ := (W3.box 0).five0
  clear W2 s3 k3
  go_wp2_with (first | (go_at_call 88; refine (c3 _ W3.outS).mono ?_; rintro e w4 ⟨rfl, s4, k4⟩) | fail)
  go_end0
  exact ⟨rfl, s4, (W3.put s4 k4).off⟩
set_option maxHeartbeats 1000000 in
theorem putN_any (g : Nat) (o : Option ByteArray) (x : Nd) (hs : x.hash.size ≤ 4611686018427387903) (hw : x.words) (w : World) (h : OutS w g o) : Puts 151 #[.pointer (some ⟨g, 0, none⟩), x.val] w g o (ndY x) := by
  obtain ⟨s, hh, l⟩ := x
  simp only at hs
  have c1 := fun u hu => out_text g o s hs u hu
  have c2 := fun u hu => out_wide g (putB o (ofL (textL s))) hh l hw.1 hw.2 u hu
  rw [putB_app] at c2
  rw [show textL s ++ wideL hh l = ndY ⟨s, hh, l⟩ from rfl] at c2
  generalize ndY ⟨s, hh, l⟩ = R at *
  generalize textL s = T1 at *
  show Puts _ #[_, .agg (ndB s hh l)] _ _ _ _
  have W0 := (Wp.start h).add 143 (ndB s hh l)
  go_enter Tryz.func151, Tryz.ntmps151
  go_upto_region 1 with fail
  change Code.wp _ _ _ _ (w.alloc (.cells (ndB s hh l) 143))
  have hL : Below w.heap.size w (w.alloc (.cells (ndB s hh l) 143)) := chainA (Below.refl _ _) _
  generalize w.alloc (.cells (ndB s hh l) 143) = V0 at *
  obtain ⟨q0, q1, q2, -, -, -, hin⟩ := (W0.box 0).three
  go_upto_region 2 with (first | (go_at_call 87; refine (c1 _ W0.outS).mono ?_; rintro e w1 ⟨rfl, s1, k1⟩) | fail)
  have W1 := W0.put s1 k1
  obtain ⟨q0, q1, q2, -, -, -, hin⟩ := (W1.box 0).three
  go_wp2_with (first | (go_at_call 88; refine (c2 _ W1.outS).mono ?_; rintro e w2 ⟨rfl, s2, k2⟩) | fail)
  go_end0
  exact ⟨rfl, s2, (W1.put s2 k2).off⟩
/-- Nodes that may be written. -/
def AllNd (l : List Nd) : Prop := l.length ≤ 4611686018427387903 ∧ ∀ x ∈ l, x.hash.size ≤ 4611686018427387903 ∧ x.words
set_option maxHeartbeats 2000000 in
theorem putNs_any (g : Nat) (o : Option ByteArray) (A : Option Addr) (c k : Nat) (l : List Nd) (hl : AllNd l) (w : World) (h : OutS w g o) (hR : ndS.Row w w.heap.size A l) (hK : IsNd w k) :
    Puts 148 #[.pointer (some ⟨g, 0, none⟩), .slice A l.length c, .pointer (some ⟨k, 0, none⟩)] w g o (rowY ndY l) := by
  have hg := h.row hR nd_notOut
  have hP := h.port
  have cN := out_num g o (l.length : Int) ⟨by omega, by have := hl.1; omega⟩ w h
  obtain ⟨N, hN⟩ : ∃ N, l.length = N := ⟨_, rfl⟩
  have hl1 := hl.1
  have hw64 : IntKind.u64.wrap (N : Int) = (N : Int) := by rw [IntKind.wrap_u64]; omega
  have e0 : rowY ndY l = wideL 0 (N : Int) ++ l.flatMap ndY := by unfold rowY; rw [hN]
  rw [e0]
  rw [hN] at cN hl1 ⊢
  obtain ⟨Y, hY⟩ : ∃ Y, wideL 0 (N : Int) = Y := ⟨_, rfl⟩
  rw [hY] at cN ⊢
  go_enter Tryz.func148, Tryz.ntmps148
  go_upto_region 2 with (first | (go_at_call 89; refine cN.mono ?_; rintro e w1 ⟨rfl, s1, k1⟩) | fail)
  clear cN hY e0 h
  go_loopg [14] N (fun gk i wr => ∃ k : Nat, k ≤ N ∧ N - k ≤ gk ∧ i = .int .i64 k ∧ OutS wr g (putB o (ofL (Y ++ (l.take k).flatMap ndY))) ∧ Off (One g) w wr)
  case atStart => exact ⟨0, Nat.zero_le _, by omega, rfl, by simpa using s1, k1⟩
  case round =>
    obtain ⟨k', hk, hgk, rfl, h, hb⟩ := hrel
    have HG := hideIt hgk
    clear hgk s1 k1
    by_cases hlt : k' < N
    · obtain ⟨x, hx⟩ : ∃ x, l[k']? = some x := ⟨_, List.getElem?_eq_getElem (by omega)⟩
      have hlti : (k' : Int) < (N : Int) := by omega
      obtain ⟨ad, hA, hin, p0, p1, p2⟩ := nd_get ((hR.off hb (Nat.le_refl _) hg).more hb.size) hx
      subst hA
      have hm := hl.2 _ (List.mem_of_getElem? hx)
      have W0 := (Wp.start h).add 143 (ndB x.hash x.h x.l)
      have K0 := (hK.off hP hb).call (chainA (Below.refl wr.heap.size wr) (.cells (ndB x.hash x.h x.l) 143))
      have c1 := fun u hu => putN_any g (putB o (ofL (Y ++ (l.take k').flatMap ndY))) x hm.1 hm.2 u hu
      have ht := take_flat (e := ndY) hx
      unfold Puts at c1
      rw [putB_app, List.append_assoc, ← ht] at c1
      obtain ⟨s, hh, q⟩ := x
      simp only [Nd.val] at c1 W0 K0 p0 p1 p2
      clear hx hm ht
      generalize ofL (Y ++ (l.take k').flatMap ndY) = S0 at *
      obtain ⟨S2, hS2⟩ : ∃ S2, ofL (Y ++ (l.take (k' + 1)).flatMap ndY) = S2 := ⟨_, rfl⟩
      rw [hS2] at c1
      have HS := hideIt hS2
      clear hS2
      go_upto_region 4 with fail
      change Code.wp _ _ _ _ (wr.alloc (.cells (ndB s hh q) 143))
      generalize wr.alloc (.cells (ndB s hh q) 143) = V0 at *
      obtain ⟨q0, q1, q2, -, -, -, hin⟩ := (W0.box 0).three
      obtain ⟨⟨f0, f1, f2, f3⟩, -, hin3⟩ := Box.four K0
      go_wp2_with (first | (go_at_call 151; refine (c1 _ W0.outS).mono ?_; rintro e w2 ⟨rfl, s2, k2⟩) | fail)
      go_roundg (N - (k' + 1))
      case measure => have := HG.out; omega
      case rel => exact ⟨k' + 1, by omega, Nat.le_refl _, by go_num, by rw [HS.out]; exact s2, hb.trans (W0.put s2 k2).off⟩
    · have e : k' = N := by omega
      subst e
      rw [List.take_of_length_le (by omega)] at h
      go_wp2
      go_end0
      exact ⟨rfl, h, hb⟩
end Go.Proofs.YtmflhodiibjpnaaGreatDoor
/-
  pack, walked: how proofs, entries, ranges, changes, rows of these, and diffs are written.
-/
namespace Go.Proofs.YtmflhodiibjpnaaGreatDoor
set_option linter.unusedVariables false
set_option linter.unusedSimpArgs false
set_option maxRecDepth 10000
open Go.RowKit

/-- A leaf, changes, that may be written. -/
def LfOk (x : Lf) : Prop := (x.id.size ≤ 4611686018427387903 ∧ x.salt.size ≤ 4611686018427387903) ∧ x.words
def ChOk (x : ChP) : Prop := Word x.pos ∧ LfOk x.old ∧ LfOk x.new
def AllCh (l : List ChP) : Prop := l.length ≤ 4611686018427387903 ∧ ∀ x ∈ l, ChOk x
theorem putNs_on (g : Nat) (o : Option ByteArray) (A : Option Addr) (c k : Nat) (l : List Nd) (hl : AllNd l) {w : World} (h : OutS w g o) (hR : ndS.Row w w.heap.size A l) (hK : IsNd w k) (o' : Option ByteArray) :
    ∀ u, OutS u g o' → Off (One g) w u → Puts 148 #[.pointer (some ⟨g, 0, none⟩), .slice A l.length c, .pointer (some ⟨k, 0, none⟩)] u g o' (rowY ndY l) := fun u hu hq =>
  putNs_any g o' A c k l hl u hu ((hR.off hq (Nat.le_refl _) (h.row hR nd_notOut)).more hq.size) (hK.off h.port hq)
set_option maxHeartbeats 1000000 in
theorem putP_any (g : Nat) (o : Option ByteArray) (pos : Int) (hp : Word pos) (A : Option Addr) (c s k : Nat) (l : List Nd) (hl : AllNd l) (w : World) (h : OutS w g o) (hR : ndS.Row w w.heap.size A l) (hK : IsNr w s k) :
    Puts 145 #[.pointer (some ⟨g, 0, none⟩), .agg #[.int .u64 pos, .slice A l.length c], .pointer (some ⟨s, 0, none⟩)] w g o (wideL 0 pos ++ rowY ndY l) := by
  have hP := h.port
  have c1 := fun u hu => out_num g o pos hp u hu
  have c2 := putNs_on g o A c k l hl h hR hK.2 (putB o (ofL (wideL 0 pos)))
  unfold Puts at c2
  rw [putB_app] at c2
  generalize wideL 0 pos ++ rowY ndY l = R at *
  generalize wideL 0 pos = T1 at *
  have X0 := hK.1.call (chainA (Below.refl w.heap.size w) (.cells #[.int .u64 pos, .slice A l.length c] 31))
  generalize l.length = N at *
  have W0 := (Wp.start h).add 31 (#[.int .u64 pos, .slice A N c])
  go_enter Tryz.func145, Tryz.ntmps145
  go_upto_region 1 with fail
  change Code.wp _ _ _ _ (w.alloc (.cells (#[.int .u64 pos, .slice A N c]) 31))
  have hL : Below w.heap.size w (w.alloc (.cells (#[.int .u64 pos, .slice A N c]) 31)) := chainA (Below.refl _ _) _
  generalize w.alloc (.cells (#[.int .u64 pos, .slice A N c]) 31) = V0 at *
  obtain ⟨q0, q1, -, -, hin⟩ := (W0.box 0).two
  go_upto_region 2 with (first | (go_at_call 89; refine (c1 _ W0.outS).mono ?_; rintro e w1 ⟨rfl, s1, k1⟩) | fail)
  have W1 := W0.put s1 k1
  obtain ⟨q0, q1, -, -, hin⟩ := (W1.box 0).two
  obtain ⟨⟨f0, f1, f2, f3⟩, -, hin3⟩ := Box.four (hK.off hP W1.off).1
  go_wp2_with (first | (go_at_call 148; refine (c2 _ W1.outS W1.off).mono ?_; rintro e w2 ⟨rfl, s2, k2⟩) | fail)
  go_end0
  exact ⟨rfl, s2, (W1.put s2 k2).off⟩
set_option maxHeartbeats 2000000 in
theorem putE_any (g : Nat) (o : Option ByteArray) (x : EnP) (hx : LfOk x.leaf) (hp : Word x.pos) (A : Option Addr) (c a p s k : Nat) (hl : AllNd x.sides) (w : World) (h : OutS w g o) (hR : ndS.Row w w.heap.size A x.sides) (hA : IsLf w a) (hK : IsPr w p s k) :
    Puts 107 #[.pointer (some ⟨g, 0, none⟩), .agg (enB x.leaf.pad x.leaf.id x.leaf.salt x.leaf.h x.leaf.l x.pos A x.sides.length c), .pointer (some ⟨a, 0, none⟩), .pointer (some ⟨p, 0, none⟩)] w g o (enY x) := by
  obtain ⟨⟨xp, xi, xs, xh, xl⟩, pos, l⟩ := x
  simp only at hx hp hl hR
  have hP := h.port
  have hg := h.row hR nd_notOut
  have c1 := fun u hu => putL_any g o ⟨xp, xi, xs, xh, xl⟩ hx.1.1 hx.1.2 hx.2 u hu
  have c2 : ∀ u, OutS u g (putB o (ofL (lfY ⟨xp, xi, xs, xh, xl⟩))) → Off (One g) w u → _ := fun u hu hq => putP_any g (putB o (ofL (lfY ⟨xp, xi, xs, xh, xl⟩))) pos hp A c s k l hl u hu ((hR.off hq (Nat.le_refl _) hg).more hq.size) (hK.off hP hq).2
  unfold Puts at c1 c2
  rw [putB_app] at c2
  rw [show lfY ⟨xp, xi, xs, xh, xl⟩ ++ (wideL 0 pos ++ rowY ndY l) = enY ⟨⟨xp, xi, xs, xh, xl⟩, pos, l⟩ from rfl] at c2
  generalize enY ⟨⟨xp, xi, xs, xh, xl⟩, pos, l⟩ = R at *
  generalize lfY ⟨xp, xi, xs, xh, xl⟩ = T1 at *
  simp only [Lf.val] at c1
  generalize l.length = N at *
  show Puts _ #[_, .agg (enB xp xi xs xh xl pos A N c), _, _] _ _ _ _
  have W0 := (Wp.start h).add 33 (enB xp xi xs xh xl pos A N c)
  go_enter Tryz.func107, Tryz.ntmps107
  go_upto_region 1 with fail
  change Code.wp _ _ _ _ (w.alloc (.cells (enB xp xi xs xh xl pos A N c) 33))
  have hL : Below w.heap.size w (w.alloc (.cells (enB xp xi xs xh xl pos A N c) 33)) := chainA (Below.refl _ _) _
  generalize w.alloc (.cells (enB xp xi xs xh xl pos A N c) 33) = V0 at *
  have qi := (W0.box 0).inside
  have q0 := (W0.box 0).read 0
  have q1 := (W0.box 0).read 1
  have q2 := (W0.box 0).read 2
  have q3 := (W0.box 0).read 3
  have q4 := (W0.box 0).read 4
  have q5 := (W0.box 0).read 5
  have q6 := (W0.box 0).read 6
  obtain ⟨⟨f0, f1, f2, f3⟩, -, hin3⟩ := Box.four (hA.off hP W0.off)
  go_upto_region 2 with (first | (go_at_call 97; refine (c1 _ W0.outS).mono ?_; rintro e w1 ⟨rfl, s1, k1⟩) | fail)
  have W1 := W0.put s1 k1
  clear q0 q1 q2 q3 q4 q5 q6 qi f0 f1 f2 f3 hin3
  have qi := (W1.box 0).inside
  have q0 := (W1.box 0).read 0
  have q1 := (W1.box 0).read 1
  have q2 := (W1.box 0).read 2
  have q3 := (W1.box 0).read 3
  have q4 := (W1.box 0).read 4
  have q5 := (W1.box 0).read 5
  have q6 := (W1.box 0).read 6
  obtain ⟨⟨f0, f1, f2, f3⟩, -, hin3⟩ := Box.four (hK.off hP W1.off).1
  go_wp2_with (first | (go_at_call 145; refine (c2 _ W1.outS W1.off).mono ?_; rintro e w2 ⟨rfl, s2, k2⟩) | fail)
  go_end0
  exact ⟨rfl, s2, (W1.put s2 k2).off⟩
set_option maxHeartbeats 2000000 in
theorem putG_any (g : Nat) (o : Option ByteArray) (x : RgP) (hp : Word x.a ∧ Word x.b) (A B : Option Addr) (c d s k : Nat) (hl : AllNd x.ins) (hm : AllNd x.outs) (w : World) (h : OutS w g o) (hR : ndS.Row w w.heap.size A x.ins) (hS : ndS.Row w w.heap.size B x.outs) (hK : IsNr w s k) :
    Puts 113 #[.pointer (some ⟨g, 0, none⟩), .agg (rgB x.a x.b A x.ins.length c B x.outs.length d), .pointer (some ⟨s, 0, none⟩)] w g o (rgY x) := by
  obtain ⟨a, b, l, m⟩ := x
  simp only at hp hl hm hR hS
  have hP := h.port
  have c1 := fun u hu => out_num g o a hp.1 u hu
  have c2 := fun u hu => out_num g (putB o (ofL (wideL 0 a))) b hp.2 u hu
  have c3 := putNs_on g o A c k l hl h hR hK.2 (putB o (ofL (wideL 0 a ++ wideL 0 b)))
  have c4 := putNs_on g o B d k m hm h hS hK.2 (putB o (ofL (wideL 0 a ++ wideL 0 b ++ rowY ndY l)))
  unfold Puts at c3 c4
  rw [putB_app] at c2 c3 c4
  rw [show wideL 0 a ++ wideL 0 b ++ rowY ndY l ++ rowY ndY m = rgY ⟨a, b, l, m⟩ by simp [rgY]] at c4
  generalize rgY ⟨a, b, l, m⟩ = R at *
  generalize wideL 0 a ++ wideL 0 b ++ rowY ndY l = T3 at *
  generalize wideL 0 a ++ wideL 0 b = T2 at *
  generalize wideL 0 a = T1 at *
  generalize l.length = N at *
  generalize m.length = M at *
  show Puts _ #[_, .agg (rgB a b A N c B M d), _] _ _ _ _
  have W0 := (Wp.start h).add 35 (rgB a b A N c B M d)
  go_enter Tryz.func113, Tryz.ntmps113
  go_upto_region 1 with fail
  change Code.wp _ _ _ _ (w.alloc (.cells (rgB a b A N c B M d) 35))
  have hL : Below w.heap.size w (w.alloc (.cells (rgB a b A N c B M d) 35)) := chainA (Below.refl _ _) _
  generalize w.alloc (.cells (rgB a b A N c B M d) 35) = V0 at *
  obtain ⟨⟨q0, q1, q2, q3⟩, -, hin⟩ := (W0.box 0).four
  go_upto_region 2 with (first | (go_at_call 89; refine (c1 _ W0.outS).mono ?_; rintro e w1 ⟨rfl, s1, k1⟩) | fail)
  have W1 := W0.put s1 k1
  obtain ⟨⟨q0, q1, q2, q3⟩, -, hin⟩ := (W1.box 0).four
  clear W0 s1 k1 c1
  go_upto_region 3 with (first | (go_at_call 89; refine (c2 _ W1.outS).mono ?_; rintro e w2 ⟨rfl, s2, k2⟩) | fail)
  have W2 := W1.put s2 k2
  obtain ⟨⟨q0, q1, q2, q3⟩, -, hin⟩ := (W2.box 0).four
  obtain ⟨⟨f0, f1, f2, f3⟩, -, hin3⟩ := Box.four (hK.off hP W2.off).1
  clear W1 s2 k2 c2
  go_upto_region 4 with (first | (go_at_call 148; refine (c3 _ W2.outS W2.off).mono ?_; rintro e w3 ⟨rfl, s3, k3⟩) | fail)
  have W3 := W2.put s3 k3
  obtain ⟨⟨q0, q1, q2, q3⟩, -, hin⟩ := (W3.box 0).four
  obtain ⟨⟨f0, f1, f2, f3⟩, -, hin3⟩ := Box.four (hK.off hP W3.off).1
  clear W2 s3 k3 c3
  go_wp2_with (first | (go_at_call 148; refine (c4 _ W3.outS W3.off).mono ?_; rintro e w4 ⟨rfl, s4, k4⟩) | fail)
  go_end0
  exact ⟨rfl, s4, (W3.put s4 k4).off⟩
end Go.Proofs.YtmflhodiibjpnaaGreatDoor
/-
  pack, walked: how changes, rows of these, and diffs are written.
-/
namespace Go.Proofs.YtmflhodiibjpnaaGreatDoor
set_option linter.unusedVariables false
set_option linter.unusedSimpArgs false
set_option maxRecDepth 10000
open Go.RowKit

set_option maxHeartbeats 2000000 in
theorem putC_any (g : Nat) (o : Option ByteArray) (x : ChP) (hx : ChOk x) (a : Nat) (w : World) (h : OutS w g o) (hA : IsLf w a) :
    Puts 157 #[.pointer (some ⟨g, 0, none⟩), .agg (chA x.pos x.old.pad x.old.id x.old.salt x.old.h x.old.l x.new.pad x.new.id x.new.salt x.new.h x.new.l), .pointer (some ⟨a, 0, none⟩)] w g o (chY x) := by
  obtain ⟨pos, ⟨xp, xi, xs, xh, xl⟩, ⟨yp, yi, ys, yh, yl⟩⟩ := x
  obtain ⟨hp, hx, hy⟩ := hx
  simp only at hx hp hy
  have hP := h.port
  have c0 := fun u hu => out_num g o pos hp u hu
  have c1 := fun u hu => putL_any g (putB o (ofL (wideL 0 pos))) ⟨xp, xi, xs, xh, xl⟩ hx.1.1 hx.1.2 hx.2 u hu
  have c2 := fun u hu => putL_any g (putB o (ofL (wideL 0 pos ++ lfY ⟨xp, xi, xs, xh, xl⟩))) ⟨yp, yi, ys, yh, yl⟩ hy.1.1 hy.1.2 hy.2 u hu
  unfold Puts at c1 c2
  rw [putB_app] at c1 c2
  rw [show wideL 0 pos ++ lfY ⟨xp, xi, xs, xh, xl⟩ ++ lfY ⟨yp, yi, ys, yh, yl⟩ = chY ⟨pos, ⟨xp, xi, xs, xh, xl⟩, ⟨yp, yi, ys, yh, yl⟩⟩ by simp [chY]] at c2
  generalize chY ⟨pos, ⟨xp, xi, xs, xh, xl⟩, ⟨yp, yi, ys, yh, yl⟩⟩ = R at *
  generalize wideL 0 pos ++ lfY ⟨xp, xi, xs, xh, xl⟩ = T2 at *
  generalize wideL 0 pos = T1 at *
  simp only [Lf.val] at c1 c2
  show Puts _ #[_, .agg (chA pos xp xi xs xh xl yp yi ys yh yl), _] _ _ _ _
  have W0 := (Wp.start h).add 103 (chA pos xp xi xs xh xl yp yi ys yh yl)
  go_enter Tryz.func157, Tryz.ntmps157
  go_upto_region 1 with fail
  change Code.wp _ _ _ _ (w.alloc (.cells (chA pos xp xi xs xh xl yp yi ys yh yl) 103))
  have hL : Below w.heap.size w (w.alloc (.cells (chA pos xp xi xs xh xl yp yi ys yh yl) 103)) := chainA (Below.refl _ _) _
  generalize w.alloc (.cells (chA pos xp xi xs xh xl yp yi ys yh yl) 103) = V0 at *
  obtain ⟨q0, ⟨q1, q2, q3, q4, q5⟩, q6, q7, q8, q9, q10⟩ := (W0.box 0).eleven
  have hin := (W0.box 0).inside
  go_upto_region 2 with (first | (go_at_call 89; refine (c0 _ W0.outS).mono ?_; rintro e w1 ⟨rfl, s1, k1⟩) | fail)
  have W1 := W0.put s1 k1
  clear q0 q1 q2 q3 q4 q5 q6 q7 q8 q9 q10 hin
  obtain ⟨q0, ⟨q1, q2, q3, q4, q5⟩, q6, q7, q8, q9, q10⟩ := (W1.box 0).eleven
  have hin := (W1.box 0).inside
  obtain ⟨⟨f0, f1, f2, f3⟩, -, hin3⟩ := Box.four (hA.off hP W1.off)
  clear W0 s1 k1 c0
  go_upto_region 3 with (first | (go_at_call 97; refine (c1 _ W1.outS).mono ?_; rintro e w2 ⟨rfl, s2, k2⟩) | fail)
  have W2 := W1.put s2 k2
  clear q0 q1 q2 q3 q4 q5 q6 q7 q8 q9 q10 hin f0 f1 f2 f3 hin3
  obtain ⟨q0, ⟨q1, q2, q3, q4, q5⟩, q6, q7, q8, q9, q10⟩ := (W2.box 0).eleven
  have hin := (W2.box 0).inside
  obtain ⟨⟨f0, f1, f2, f3⟩, -, hin3⟩ := Box.four (hA.off hP W2.off)
  clear W1 s2 k2 c1
  go_wp2_with (first | (go_at_call 97; refine (c2 _ W2.outS).mono ?_; rintro e w3 ⟨rfl, s3, k3⟩) | fail)
  go_end0
  exact ⟨rfl, s3, (W2.put s3 k3).off⟩
set_option maxHeartbeats 4000000 in
theorem putCs_any (g : Nat) (o : Option ByteArray) (A : Option Addr) (c k a : Nat) (l : List ChP) (hl : AllCh l) (w : World) (h : OutS w g o) (hR : chS.Row w w.heap.size A l) (hK : IsCh w k a) :
    Puts 154 #[.pointer (some ⟨g, 0, none⟩), .slice A l.length c, .pointer (some ⟨k, 0, none⟩)] w g o (rowY chY l) := by
  have hg := h.row hR ch_notOut
  have hP := h.port
  have cN := out_num g o (l.length : Int) ⟨by omega, by have := hl.1; omega⟩ w h
  obtain ⟨N, hN⟩ : ∃ N, l.length = N := ⟨_, rfl⟩
  have hl1 := hl.1
  have hw64 : IntKind.u64.wrap (N : Int) = (N : Int) := by rw [IntKind.wrap_u64]; omega
  have e0 : rowY chY l = wideL 0 (N : Int) ++ l.flatMap chY := by unfold rowY; rw [hN]
  rw [e0]
  rw [hN] at cN hl1 ⊢
  obtain ⟨Y, hY⟩ : ∃ Y, wideL 0 (N : Int) = Y := ⟨_, rfl⟩
  rw [hY] at cN ⊢
  go_enter Tryz.func154, Tryz.ntmps154
  go_upto_region 2 with (first | (go_at_call 89; refine cN.mono ?_; rintro e w1 ⟨rfl, s1, k1⟩) | fail)
  clear cN hY e0 h
  go_loopg [14] N (fun gk i wr => ∃ k : Nat, k ≤ N ∧ N - k ≤ gk ∧ i = .int .i64 k ∧ OutS wr g (putB o (ofL (Y ++ (l.take k).flatMap chY))) ∧ Off (One g) w wr)
  case atStart => exact ⟨0, Nat.zero_le _, by omega, rfl, by simpa using s1, k1⟩
  case round =>
    obtain ⟨k', hk, hgk, rfl, h, hb⟩ := hrel
    have HG := hideIt hgk
    clear hgk s1 k1
    by_cases hlt : k' < N
    · obtain ⟨x, hx⟩ : ∃ x, l[k']? = some x := ⟨_, List.getElem?_eq_getElem (by omega)⟩
      have hlti : (k' : Int) < (N : Int) := by omega
      obtain ⟨ad, hA, hin, p0, ⟨p1, p2, p3, p4, p5⟩, p6, p7, p8, p9, p10⟩ := ch_get ((hR.off hb (Nat.le_refl _) hg).more hb.size) hx
      subst hA
      have hm := hl.2 _ (List.mem_of_getElem? hx)
      have W0 := (Wp.start h).add 103 (chA x.pos x.old.pad x.old.id x.old.salt x.old.h x.old.l x.new.pad x.new.id x.new.salt x.new.h x.new.l)
      have K0 := (hK.off hP hb).call (chainA (Below.refl wr.heap.size wr) (.cells (chA x.pos x.old.pad x.old.id x.old.salt x.old.h x.old.l x.new.pad x.new.id x.new.salt x.new.h x.new.l) 103))
      have c1 := fun u hu hv => putC_any g (putB o (ofL (Y ++ (l.take k').flatMap chY))) x hm a u hu hv
      have ht := take_flat (e := chY) hx
      unfold Puts at c1
      rw [putB_app, List.append_assoc, ← ht] at c1
      obtain ⟨pos, ⟨xp, xi, xs, xh, xl⟩, ⟨yp, yi, ys, yh, yl⟩⟩ := x
      simp only at c1 W0 K0 p0 p1 p2 p3 p4 p5 p6 p7 p8 p9 p10
      clear hx hm ht
      generalize ofL (Y ++ (l.take k').flatMap chY) = S0 at *
      obtain ⟨S2, hS2⟩ : ∃ S2, ofL (Y ++ (l.take (k' + 1)).flatMap chY) = S2 := ⟨_, rfl⟩
      rw [hS2] at c1
      have HS := hideIt hS2
      clear hS2
      go_upto_region 4 with fail
      change Code.wp _ _ _ _ (wr.alloc (.cells (chA pos xp xi xs xh xl yp yi ys yh yl) 103))
      generalize wr.alloc (.cells (chA pos xp xi xs xh xl yp yi ys yh yl) 103) = V0 at *
      clear p0 p1 p2 p3 p4 p5 p6 p7 p8 p9 p10 hin
      obtain ⟨q0, ⟨q1, q2, q3, q4, q5⟩, q6, q7, q8, q9, q10⟩ := (W0.box 0).eleven
      have hin := (W0.box 0).inside
      obtain ⟨⟨f0, f1, f2, f3⟩, -, hin3⟩ := Box.four K0.1
      go_wp2_with (first | (go_at_call 157; refine (c1 _ W0.outS K0.2).mono ?_; rintro e w2 ⟨rfl, s2, k2⟩) | fail)
      go_roundg (N - (k' + 1))
      case measure => have := HG.out; omega
      case rel => exact ⟨k' + 1, by omega, Nat.le_refl _, by go_num, by rw [HS.out]; exact s2, hb.trans (W0.put s2 k2).off⟩
    · have e : k' = N := by omega
      subst e
      rw [List.take_of_length_le (by omega)] at h
      go_wp2
      go_end0
      exact ⟨rfl, h, hb⟩
set_option maxHeartbeats 2000000 in
theorem putD_any (g : Nat) (o : Option ByteArray) (x : DfP) (A B : Option Addr) (c d q n i a k : Nat) (hl : AllCh x.chs) (hm : AllNd x.fr) (w : World) (h : OutS w g o) (hR : chS.Row w w.heap.size A x.chs) (hS : ndS.Row w w.heap.size B x.fr) (hC : IsCr w q i a) (hK : IsNr w n k) :
    Puts 118 #[.pointer (some ⟨g, 0, none⟩), .agg (dfB A x.chs.length c B x.fr.length d), .pointer (some ⟨q, 0, none⟩), .pointer (some ⟨n, 0, none⟩)] w g o (dfY x) := by
  obtain ⟨l, m⟩ := x
  simp only at hl hm hR hS
  have hP := h.port
  have hg := h.row hR ch_notOut
  have c1 := fun u hu (hq : Off (One g) w u) => putCs_any g o A c i a l hl u hu ((hR.off hq (Nat.le_refl _) hg).more hq.size) (hC.off hP hq).2
  have c2 := putNs_on g o B d k m hm h hS hK.2 (putB o (ofL (rowY chY l)))
  unfold Puts at c1 c2
  rw [putB_app] at c2
  rw [show rowY chY l ++ rowY ndY m = dfY ⟨l, m⟩ from rfl] at c2
  generalize dfY ⟨l, m⟩ = R at *
  generalize rowY chY l = T1 at *
  generalize l.length = N at *
  generalize m.length = M at *
  show Puts _ #[_, .agg (dfB A N c B M d), _, _] _ _ _ _
  have W0 := (Wp.start h).add 38 (dfB A N c B M d)
  go_enter Tryz.func118, Tryz.ntmps118
  go_upto_region 1 with fail
  change Code.wp _ _ _ _ (w.alloc (.cells (dfB A N c B M d) 38))
  have hL : Below w.heap.size w (w.alloc (.cells (dfB A N c B M d) 38)) := chainA (Below.refl _ _) _
  generalize w.alloc (.cells (dfB A N c B M d) 38) = V0 at *
  obtain ⟨q0, q1, -, -, hin⟩ := (W0.box 0).two
  obtain ⟨⟨f0, f1, f2, f3⟩, -, hin3⟩ := Box.four (hC.off hP W0.off).1
  go_upto_region 2 with (first | (go_at_call 154; refine (c1 _ W0.outS W0.off).mono ?_; rintro e w1 ⟨rfl, s1, k1⟩) | fail)
  have W1 := W0.put s1 k1
  clear q0 q1 hin f0 f1 f2 f3 hin3
  obtain ⟨q0, q1, -, -, hin⟩ := (W1.box 0).two
  obtain ⟨⟨f0, f1, f2, f3⟩, -, hin3⟩ := Box.four (hK.off hP W1.off).1
  go_wp2_with (first | (go_at_call 148; refine (c2 _ W1.outS W1.off).mono ?_; rintro e w2 ⟨rfl, s2, k2⟩) | fail)
  go_end0
  exact ⟨rfl, s2, (W1.put s2 k2).off⟩
end Go.Proofs.YtmflhodiibjpnaaGreatDoor
