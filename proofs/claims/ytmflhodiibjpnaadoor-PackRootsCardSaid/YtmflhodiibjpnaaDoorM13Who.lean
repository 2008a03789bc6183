/- Several of my texts, laid as one. -/
import Derived.Test.YtmflhodiibjpnaaDoorM13Put
import Derived.Test.YtmflhodiibjpnaaDoorM13Wr
import Derived.Test.YtmflhodiibjpnaaDoorM13Dec
/-
  pack, walked: the whole bytes of roots, leaves.
-/
namespace Go.Proofs.YtmflhodiibjpnaaDoor
set_option linter.unusedVariables false
set_option linter.unusedSimpArgs false
set_option maxRecDepth 10000
open Go.RowKit

def tellP {α : Type} (c : UInt8) (e : α → List UInt8) (wr : α → Int) (x : α) : ByteArray × Int := if wr x = 0 then wholeO (c :: e x) else (⟨#[]⟩, wr x)
def outN : Option ByteArray → ByteArray × Int
  | none => (⟨#[]⟩, 3)
  | some s => (s, 0)
theorem whole_of {c : UInt8} {l : List UInt8} {O : Option ByteArray} (h : putB (putB (some ⟨#[]⟩) (ofL [c])) (ofL l) = O) : wholeO (c :: l) = outN O := by
  rw [putB_app] at h
  unfold wholeO
  by_cases hl : 1048576 < (c :: l).length
  · rw [if_pos hl]
    rw [putB_no _ _ (by rw [ofL_size]; show 1048576 < 0 + _; rw [Nat.zero_add]; exact hl)] at h
    subst h
    rfl
  · rw [if_neg hl]
    rw [putB_yes _ _ (by rw [ofL_size]; show 0 + _ ≤ _; rw [Nat.zero_add]; exact Nat.le_of_not_lt hl), nil_app] at h
    subst h
    rfl
theorem chain0 {B : Nat} {w W u : World} (h : Below B w W) (k : Below B W u) : Below B w u :=
  ⟨k.os.trans h.os, k.tape.trans h.tape, k.output.trans h.output, Nat.le_trans h.size k.size, fun i hi => (k.block i hi).trans (h.block i hi)⟩
theorem Sh.Row.apart {α : Type} {S : Sh α} {w : World} {B g : Nat} {A : Option Addr} {l : List α} (h : S.Row w B A l) (hg : B ≤ g) : ∀ ad, A = some ad → l ≠ [] → ad.block ≠ g := by
  intro ad hA hne e
  cases l with
  | nil => exact hne rfl
  | cons x r =>
    obtain ⟨ad2, e2, hl, -⟩ := h 0 x rfl
    rw [hA] at e2
    injection e2 with e2
    subst e2
    omega
set_option maxRecDepth 20000 in
set_option maxHeartbeats 4000000 in
theorem wholeR_any (x : RtP) (hs : x.hash.size ≤ 4611686018427387903) (hw : Word x.h ∧ Word x.l) (w : World) : Calls Tryd.prog 17 #[.agg (rtF), x.val] w (Tells (.tuple #[.string (tellP 82 rtY wrR x).1, .int .i64 (tellP 82 rtY wrR x).2]) w.heap.size w) := by
  obtain ⟨xs, xh, xl, xn⟩ := x
  simp only at hs hw
  show Calls _ _ #[_, .agg (rtB xs xh xl xn)] _ _
  obtain ⟨VV, hVV⟩ : ∃ VV, tellP 82 rtY wrR ⟨xs, xh, xl, xn⟩ = VV := ⟨_, rfl⟩
  rw [hVV]
  unfold tellP at hVV
  have cW := fun u => wrR_any ⟨xs, xh, xl, xn⟩ (by simp only; omega) u
  simp only [RtP.val] at cW
  obtain ⟨E, hE⟩ : ∃ E, wrR ⟨xs, xh, xl, xn⟩ = E := ⟨_, rfl⟩
  rw [hE] at cW hVV
  clear hE
  obtain ⟨Y, hY⟩ : ∃ Y, rtY ⟨xs, xh, xl, xn⟩ = Y := ⟨_, rfl⟩
  rw [hY] at hVV
  have cP := fun g o u hu => putR_any g o ⟨xs, xh, xl, xn⟩ hs hw u hu
  simp only [RtP.val] at cP
  rw [hY] at cP
  clear hY
  have HV := hideIt hVV
  clear hVV
  have D0 := ((Has.start w).add 53 (rtF)).addAt 32 (rtB xs xh xl xn) (g := w.heap.size + 1) (by simp)
  go_enter Tryd.func17, Tryd.ntmps17
  go_upto_region 1 with fail
  change Code.wp _ _ _ _ ((w.alloc (.cells (rtF) 53)).alloc (.cells (rtB xs xh xl xn) 32))
  obtain ⟨b, hb⟩ : ∃ b, w.heap.size + 1 = b := ⟨_, rfl⟩
  have hb0 : (w.alloc (.cells (rtF) 53)).heap.size = w.heap.size + 1 := by simp
  try rw [hb0]
  rw [hb] at D0 ⊢
  generalize (w.alloc (.cells (rtF) 53)).alloc (.cells (rtB xs xh xl xn) 32) = V0 at *
  clear hb0
  have L0 := D0.below
  obtain ⟨⟨p0, p1, p2, p3⟩, -, hin0⟩ := (D0.box 1).four
  have hinb := (D0.box 0).inside
  have b0 : V0.cell? ⟨b, 0, none⟩ = some (.string xs) := (D0.box 0).read 0
  have b1 : V0.cell? ⟨b, 1, none⟩ = some (.int .u64 xh) := (D0.box 0).read 1
  have b2 : V0.cell? ⟨b, 2, none⟩ = some (.int .u64 xl) := (D0.box 0).read 2
  have b3 : V0.cell? ⟨b, 3, none⟩ = some (.int .i64 xn) := (D0.box 0).read 3
  by_cases hE : E = 0
  · have hE2 : (E != 0) = false := by simpa using hE
    have e9 := HV.out
    rw [if_pos hE] at e9
    have HE9 := hideIt e9
    clear hE e9 HV
    go_upto_region 5 with (first
      | (go_at_call 31; refine (cW _).mono ?_; rintro e w2 ⟨rfl, j2⟩)
      | fail)
    change Code.wp _ _ _ _ (w2.alloc (.cells #[.pointer none, .int .i64 0, .bool false] 27))
    have D2 := (D0.call j2).past (.cells #[.pointer none, .int .i64 0, .bool false] 27)
    have LV := D2.below
    have O0 := out_new (Box.made w2 27 #[.pointer none, .int .i64 0, .bool false])
    have hg : b < w2.heap.size := ((D0.call j2).box 0).inside

    obtain ⟨g, hgg⟩ : ∃ g, w2.heap.size = g := ⟨_, rfl⟩
    rw [hgg] at O0 hg ⊢
    have hP := O0.port
    generalize w2.alloc (.cells #[.pointer none, .int .i64 0, .bool false] 27) = V2 at *
    have W0 := ((Wp.start O0).with (D2.box 0) (by omega)).with (D2.box 1) (by omega)
    clear p0 p1 p2 p3 hin0 hinb b0 b1 b2 b3
    obtain ⟨⟨p0, p1, p2, p3⟩, -, hin0⟩ := (W0.box 0).four
    have cB := fun u hu => out_byte g (some ⟨#[]⟩) 82 82 rfl u hu
    go_upto_region 6 with (first | (go_at_call 33; refine (cB _ W0.outS).mono ?_; rintro e w3 ⟨rfl, s3, k3⟩) | fail)
    have W1 := W0.put s3 k3
    clear p0 p1 p2 p3 hin0 cB
    obtain ⟨⟨p0, p1, p2, p3⟩, -, hin0⟩ := (W1.box 0).four
    have hinb := (W1.box 1).inside
    have b0 : w3.cell? ⟨b, 0, none⟩ = some (.string xs) := (W1.box 1).read 0
    have b1 : w3.cell? ⟨b, 1, none⟩ = some (.int .u64 xh) := (W1.box 1).read 1
    have b2 : w3.cell? ⟨b, 2, none⟩ = some (.int .u64 xl) := (W1.box 1).read 2
    have b3 : w3.cell? ⟨b, 3, none⟩ = some (.int .i64 xn) := (W1.box 1).read 3

    obtain ⟨O, hO⟩ : ∃ O, putB (putB (some ⟨#[]⟩) (ofL [82])) (ofL Y) = O := ⟨_, rfl⟩
    have e9 := HE9.out
    rw [whole_of hO] at e9
    have HE9 := hideIt e9
    clear e9
    go_upto_region 7 with (first | (go_at_call 23; refine (cP _ _ _ W1.outS).mono ?_; rintro e w4 ⟨rfl, s4, k4⟩) | fail)
    rw [hO] at s4
    have W2 := W1.put s4 k4
    have cD := out_done g O w4 s4
    have hB : Below w.heap.size w w4 := chain0 LV (W2.off.below (fun i hi => by have : i = g := hi; omega) LV.size)
    clear hO
    cases O with
    | none =>
      have cD : Calls _ _ _ _ (Still (.tuple #[.string ⟨#[]⟩, .int .i64 3]) w4) := cD
      have e9 : ((⟨#[]⟩ : ByteArray), (3 : Int)) = VV := HE9.out
      subst e9
      go_wp2_with (first | (go_at_call 6; refine cD.mono ?_; rintro e w5 ⟨rfl, rfl⟩) | fail)
      refine bodyPost_ret (results_tmp2 rfl _ _ _) rfl ?_
      exact ⟨rfl, hB⟩
    | some y =>
      have cD : Calls _ _ _ _ (Still (.tuple #[.string y, .int .i64 0]) w4) := cD
      have e9 : (y, (0 : Int)) = VV := HE9.out
      subst e9
      go_wp2_with (first | (go_at_call 6; refine cD.mono ?_; rintro e w5 ⟨rfl, rfl⟩) | fail)
      refine bodyPost_ret (results_tmp2 rfl _ _ _) rfl ?_
      exact ⟨rfl, hB⟩
  · have hE2 : (E != 0) = true := by simpa using hE
    have e9 := HV.out
    rw [if_neg hE] at e9
    subst e9
    clear hE
    go_wp2_with (first
      | (go_at_call 31; refine (cW _).mono ?_; rintro e w2 ⟨rfl, j2⟩)
      | fail)
    refine bodyPost_ret (results_tmp2 rfl _ _ _) rfl ?_
    exact ⟨rfl, (D0.call j2).below⟩
set_option maxRecDepth 20000 in
set_option maxHeartbeats 4000000 in
theorem wholeL_any (x : Lf) (h1 : x.id.size ≤ 4611686018427387903) (h2 : x.salt.size ≤ 4611686018427387903) (hw : x.words) (w : World) (hT : TabU w) : Calls Tryd.prog 20 #[.agg (lfF), x.val] w (Tells (.tuple #[.string (tellP 76 lfY wrLf x).1, .int .i64 (tellP 76 lfY wrLf x).2]) w.heap.size w) := by
  obtain ⟨xp, xi, xs, xh, xl⟩ := x
  simp only at h1 h2
  show Calls _ _ #[_, .agg (lfB xp xi xs xh xl)] _ _
  obtain ⟨VV, hVV⟩ : ∃ VV, tellP 76 lfY wrLf ⟨xp, xi, xs, xh, xl⟩ = VV := ⟨_, rfl⟩
  rw [hVV]
  unfold tellP at hVV
  have cW := fun u hu => wrL_any ⟨xp, xi, xs, xh, xl⟩ (by simp only; omega) (by simp only; omega) u hu
  simp only [Lf.val] at cW
  obtain ⟨E, hE⟩ : ∃ E, wrLf ⟨xp, xi, xs, xh, xl⟩ = E := ⟨_, rfl⟩
  rw [hE] at cW hVV
  clear hE
  obtain ⟨Y, hY⟩ : ∃ Y, lfY ⟨xp, xi, xs, xh, xl⟩ = Y := ⟨_, rfl⟩
  rw [hY] at hVV
  have cP := fun g o u hu => putL_any g o ⟨xp, xi, xs, xh, xl⟩ h1 h2 hw u hu
  simp only [Lf.val] at cP
  rw [hY] at cP
  clear hY
  have HV := hideIt hVV
  clear hVV
  have D0 := ((Has.start w).add 64 (lfF)).addAt 46 (lfB xp xi xs xh xl) (g := w.heap.size + 1) (by simp)
  go_enter Tryd.func20, Tryd.ntmps20
  go_upto_region 1 with fail
  change Code.wp _ _ _ _ ((w.alloc (.cells (lfF) 64)).alloc (.cells (lfB xp xi xs xh xl) 46))
  obtain ⟨b, hb⟩ : ∃ b, w.heap.size + 1 = b := ⟨_, rfl⟩
  have hb0 : (w.alloc (.cells (lfF) 64)).heap.size = w.heap.size + 1 := by simp
  try rw [hb0]
  rw [hb] at D0 ⊢
  generalize (w.alloc (.cells (lfF) 64)).alloc (.cells (lfB xp xi xs xh xl) 46) = V0 at *
  clear hb0
  have L0 := D0.below
  have T0 := hT.call L0
  obtain ⟨⟨p0, p1, p2, p3⟩, -, hin0⟩ := (D0.box 1).four
  have hinb := (D0.box 0).inside
  have b0 : V0.cell? ⟨b, 0, none⟩ = some (.bool xp) := (D0.box 0).read 0
  have b1 : V0.cell? ⟨b, 1, none⟩ = some (.string xi) := (D0.box 0).read 1
  have b2 : V0.cell? ⟨b, 2, none⟩ = some (.string xs) := (D0.box 0).read 2
  have b3 : V0.cell? ⟨b, 3, none⟩ = some (.int .u64 xh) := (D0.box 0).read 3
  have b4 : V0.cell? ⟨b, 4, none⟩ = some (.int .u64 xl) := (D0.box 0).read 4
  by_cases hE : E = 0
  · have hE2 : (E != 0) = false := by simpa using hE
    have e9 := HV.out
    rw [if_pos hE] at e9
    have HE9 := hideIt e9
    clear hE e9 HV
    go_upto_region 5 with (first
      | (go_at_call 39; refine (cW _ T0).mono ?_; rintro e w2 ⟨rfl, j2⟩)
      | fail)
    change Code.wp _ _ _ _ (w2.alloc (.cells #[.pointer none, .int .i64 0, .bool false] 27))
    have D2 := (D0.call j2).past (.cells #[.pointer none, .int .i64 0, .bool false] 27)
    have LV := D2.below
    have O0 := out_new (Box.made w2 27 #[.pointer none, .int .i64 0, .bool false])
    have hg : b < w2.heap.size := ((D0.call j2).box 0).inside

    obtain ⟨g, hgg⟩ : ∃ g, w2.heap.size = g := ⟨_, rfl⟩
    rw [hgg] at O0 hg ⊢
    have hP := O0.port
    generalize w2.alloc (.cells #[.pointer none, .int .i64 0, .bool false] 27) = V2 at *
    have W0 := ((Wp.start O0).with (D2.box 0) (by omega)).with (D2.box 1) (by omega)
    clear p0 p1 p2 p3 hin0 hinb b0 b1 b2 b3 b4
    obtain ⟨⟨p0, p1, p2, p3⟩, -, hin0⟩ := (W0.box 0).four
    have cB := fun u hu => out_byte g (some ⟨#[]⟩) 76 76 rfl u hu
    go_upto_region 6 with (first | (go_at_call 33; refine (cB _ W0.outS).mono ?_; rintro e w3 ⟨rfl, s3, k3⟩) | fail)
    have W1 := W0.put s3 k3
    clear p0 p1 p2 p3 hin0 cB
    obtain ⟨⟨p0, p1, p2, p3⟩, -, hin0⟩ := (W1.box 0).four
    have hinb := (W1.box 1).inside
    have b0 : w3.cell? ⟨b, 0, none⟩ = some (.bool xp) := (W1.box 1).read 0
    have b1 : w3.cell? ⟨b, 1, none⟩ = some (.string xi) := (W1.box 1).read 1
    have b2 : w3.cell? ⟨b, 2, none⟩ = some (.string xs) := (W1.box 1).read 2
    have b3 : w3.cell? ⟨b, 3, none⟩ = some (.int .u64 xh) := (W1.box 1).read 3
    have b4 : w3.cell? ⟨b, 4, none⟩ = some (.int .u64 xl) := (W1.box 1).read 4

    obtain ⟨O, hO⟩ : ∃ O, putB (putB (some ⟨#[]⟩) (ofL [76])) (ofL Y) = O := ⟨_, rfl⟩
    have e9 := HE9.out
    rw [whole_of hO] at e9
    have HE9 := hideIt e9
    clear e9
    go_upto_region 7 with (first | (go_at_call 35; refine (cP _ _ _ W1.outS).mono ?_; rintro e w4 ⟨rfl, s4, k4⟩) | fail)
    rw [hO] at s4
    have W2 := W1.put s4 k4
    have cD := out_done g O w4 s4
    have hB : Below w.heap.size w w4 := chain0 LV (W2.off.below (fun i hi => by have : i = g := hi; omega) LV.size)
    clear hO
    cases O with
    | none =>
      have cD : Calls _ _ _ _ (Still (.tuple #[.string ⟨#[]⟩, .int .i64 3]) w4) := cD
      have e9 : ((⟨#[]⟩ : ByteArray), (3 : Int)) = VV := HE9.out
      subst e9
      go_wp2_with (first | (go_at_call 6; refine cD.mono ?_; rintro e w5 ⟨rfl, rfl⟩) | fail)
      refine bodyPost_ret (results_tmp2 rfl _ _ _) rfl ?_
      exact ⟨rfl, hB⟩
    | some y =>
      have cD : Calls _ _ _ _ (Still (.tuple #[.string y, .int .i64 0]) w4) := cD
      have e9 : (y, (0 : Int)) = VV := HE9.out
      subst e9
      go_wp2_with (first | (go_at_call 6; refine cD.mono ?_; rintro e w5 ⟨rfl, rfl⟩) | fail)
      refine bodyPost_ret (results_tmp2 rfl _ _ _) rfl ?_
      exact ⟨rfl, hB⟩
  · have hE2 : (E != 0) = true := by simpa using hE
    have e9 := HV.out
    rw [if_neg hE] at e9
    subst e9
    clear hE
    go_wp2_with (first
      | (go_at_call 39; refine (cW _ T0).mono ?_; rintro e w2 ⟨rfl, j2⟩)
      | fail)
    refine bodyPost_ret (results_tmp2 rfl _ _ _) rfl ?_
    exact ⟨rfl, (D0.call j2).below⟩
end Go.Proofs.YtmflhodiibjpnaaDoor
