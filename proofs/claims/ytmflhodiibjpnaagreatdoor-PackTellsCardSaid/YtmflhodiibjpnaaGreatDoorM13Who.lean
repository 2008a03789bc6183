/- Several of my texts, laid as one. -/
import Derived.Test.YtmflhodiibjpnaaGreatDoorM13Put
import Derived.Test.YtmflhodiibjpnaaGreatDoorM13Wr
import Derived.Test.YtmflhodiibjpnaaGreatDoorM13Dec
/-
  pack, walked: the whole bytes of roots, leaves.
-/
namespace Go.Proofs.YtmflhodiibjpnaaGreatDoor
set_option linter.unusedVariables false
set_option linter.unusedSimpArgs false
set_option maxRecDepth 10000
open Go.RowKit

def tellP {α : Type} (c : UInt8) (e : α → List UInt8) (wr : α → Int) (x : α) : ByteArray × Int := if wr x = 0 then wholeO (c :: e x) else (⟨#[]⟩, wr x)
def outN : Option ByteArray → ByteArray × Int
  | none => (⟨#[]⟩, 3)
  | some s => (s, 0)
theorem whole_of {c : UInt8} {l : List UInt8} {O : Option ByteArray} (h : putB (putB (some ⟨#[]⟩) (ofL [c])) (ofL l) = O) : wholeO (c :: l) = outN O := by
  rw [putB_app] at h
  unfold wholeO
  by_cases hl : 1048576 < (c :: l).length
  · rw [if_pos hl]
    rw [putB_no _ _ (by rw [ofL_size]; show 1048576 < 0 + _; rw [Nat.zero_add]; exact hl)] at h
    subst h
    rfl
  · rw [if_neg hl]
    rw [putB_yes _ _ (by rw [ofL_size]; show 0 + _ ≤ _; rw [Nat.zero_add]; exact Nat.le_of_not_lt hl), nil_app] at h
    subst h
    rfl
theorem chain0 {B : Nat} {w W u : World} (h : Below B w W) (k : Below B W u) : Below B w u :=
  ⟨k.os.trans h.os, k.tape.trans h.tape, k.output.trans h.output, Nat.le_trans h.size k.size, fun i hi => (k.block i hi).trans (h.block i hi)⟩
theorem Sh.Row.apart {α : Type} {S : Sh α} {w : World} {B g : Nat} {A : Option Addr} {l : List α} (h : S.Row w B A l) (hg : B ≤ g) : ∀ ad, A = some ad → l ≠ [] → ad.block ≠ g := by
  intro ad hA hne e
  cases l with
  | nil => exact hne rfl
  | cons x r =>
    obtain ⟨ad2, e2, hl, -⟩ := h 0 x rfl
    rw [hA] at e2
    injection e2 with e2
    subst e2
    omega
set_option maxRecDepth 20000 in
set_option maxHeartbeats 4000000 in
theorem wholeR_any (x : RtP) (hs : x.hash.size ≤ 4611686018427387903) (hw : Word x.h ∧ Word x.l) (w : World) : Calls Tryz.prog 53 #[.agg (rtF), x.val] w (Tells (.tuple #[.string (tellP 82 rtY wrR x).1, .int .i64 (tellP 82 rtY wrR x).2]) w.heap.size w) := by
  obtain ⟨xs, xh, xl, xn⟩ := x
  simp only at hs hw
  show Calls _ _ #[_, .agg (rtB xs xh xl xn)] _ _
  obtain ⟨VV, hVV⟩ : ∃ VV, tellP 82 rtY wrR ⟨xs, xh, xl, xn⟩ = VV := ⟨_, rfl⟩
  rw [hVV]
  unfold tellP at hVV
  have cW := fun u => wrR_any ⟨xs, xh, xl, xn⟩ (by simp only; omega) u
  simp only [RtP.val] at cW
  obtain ⟨E, hE⟩ : ∃ E, wrR ⟨xs, xh, xl, xn⟩ = E := ⟨_, rfl⟩
  rw [hE] at cW hVV
  clear hE
  obtain ⟨Y, hY⟩ : ∃ Y, rtY ⟨xs, xh, xl, xn⟩ = Y := ⟨_, rfl⟩
  rw [hY] at hVV
  have cP := fun g o u hu => putR_any g o ⟨xs, xh, xl, xn⟩ hs hw u hu
  simp only [RtP.val] at cP
  rw [hY] at cP
  clear hY
  have HV := hideIt hVV
  clear hVV
  have D0 := ((Has.start w).add 109 (rtF)).addAt 26 (rtB xs xh xl xn) (g := w.heap.size + 1) (by simp)
  go_enter Tryz.func53, Tryz.ntmps53
  go_upto_region 1 with fail
  change Code.wp _ _ _ _ ((w.alloc (.cells (rtF) 109)).alloc (.cells (rtB xs xh xl xn) 26))
  obtain ⟨b, hb⟩ : ∃ b, w.heap.size + 1 = b := ⟨_, rfl⟩
  have hb0 : (w.alloc (.cells (rtF) 109)).heap.size = w.heap.size + 1 := by simp
  try rw [hb0]
  rw [hb] at D0 ⊢
  generalize (w.alloc (.cells (rtF) 109)).alloc (.cells (rtB xs xh xl xn) 26) = V0 at *
  clear hb0
  have L0 := D0.below
  obtain ⟨⟨p0, p1, p2, p3⟩, -, hin0⟩ := (D0.box 1).four
  have hinb := (D0.box 0).inside
  have b0 : V0.cell? ⟨b, 0, none⟩ = some (.string xs) := (D0.box 0).read 0
  have b1 : V0.cell? ⟨b, 1, none⟩ = some (.int .u64 xh) := (D0.box 0).read 1
  have b2 : V0.cell? ⟨b, 2, none⟩ = some (.int .u64 xl) := (D0.box 0).read 2
  have b3 : V0.cell? ⟨b, 3, none⟩ = some (.int .i64 xn) := (D0.box 0).read 3
  by_cases hE : E = 0
  · have hE2 : (E != 0) = false := by simpa using hE
    have e9 := HV.out
    rw [if_pos hE] at e9
    have HE9 := hideIt e9
    clear hE e9 HV
    go_upto_region 5 with (first
      | (go_at_call 94; refine (cW _).mono ?_; rintro e w2 ⟨rfl, j2⟩)
      | fail)
    change Code.wp _ _ _ _ (w2.alloc (.cells #[.pointer none, .int .i64 0, .bool false] 45))
    have D2 := (D0.call j2).past (.cells #[.pointer none, .int .i64 0, .bool false] 45)
    have LV := D2.below
    have O0 := out_new (Box.made w2 45 #[.pointer none, .int .i64 0, .bool false])
    have hg : b < w2.heap.size := ((D0.call j2).box 0).inside

    obtain ⟨g, hgg⟩ : ∃ g, w2.heap.size = g := ⟨_, rfl⟩
    rw [hgg] at O0 hg ⊢
    have hP := O0.port
    generalize w2.alloc (.cells #[.pointer none, .int .i64 0, .bool false] 45) = V2 at *
    have W0 := ((Wp.start O0).with (D2.box 0) (by omega)).with (D2.box 1) (by omega)
    clear p0 p1 p2 p3 hin0 hinb b0 b1 b2 b3
    obtain ⟨⟨p0, p1, p2, p3⟩, -, hin0⟩ := (W0.box 0).four
    have cB := fun u hu => out_byte g (some ⟨#[]⟩) 82 82 rfl u hu
    go_upto_region 6 with (first | (go_at_call 96; refine (cB _ W0.outS).mono ?_; rintro e w3 ⟨rfl, s3, k3⟩) | fail)
    have W1 := W0.put s3 k3
    clear p0 p1 p2 p3 hin0 cB
    obtain ⟨⟨p0, p1, p2, p3⟩, -, hin0⟩ := (W1.box 0).four
    have hinb := (W1.box 1).inside
    have b0 : w3.cell? ⟨b, 0, none⟩ = some (.string xs) := (W1.box 1).read 0
    have b1 : w3.cell? ⟨b, 1, none⟩ = some (.int .u64 xh) := (W1.box 1).read 1
    have b2 : w3.cell? ⟨b, 2, none⟩ = some (.int .u64 xl) := (W1.box 1).read 2
    have b3 : w3.cell? ⟨b, 3, none⟩ = some (.int .i64 xn) := (W1.box 1).read 3

    obtain ⟨O, hO⟩ : ∃ O, putB (putB (some ⟨#[]⟩) (ofL [82])) (ofL Y) = O := ⟨_, rfl⟩
    have e9 := HE9.out
    rw [whole_of hO] at e9
    have HE9 := hideIt e9
    clear e9
    go_upto_region 7 with (first | (go_at_call 86; refine (cP _ _ _ W1.outS).mono ?_; rintro e w4 ⟨rfl, s4, k4⟩) | fail)
    rw [hO] at s4
    have W2 := W1.put s4 k4
    have cD := out_done g O w4 s4
    have hB : Below w.heap.size w w4 := chain0 LV (W2.off.below (fun i hi => by have : i = g := hi; omega) LV.size)
    clear hO
    cases O with
    | none =>
      have cD : Calls _ _ _ _ (Still (.tuple #[.string ⟨#[]⟩, .int .i64 3]) w4) := cD
      have e9 : ((⟨#[]⟩ : ByteArray), (3 : Int)) = VV := HE9.out
      subst e9
      go_wp2_with (first | (go_at_call 12; refine cD.mono ?_; rintro e w5 ⟨rfl, rfl⟩) | fail)
      refine bodyPost_ret (results_tmp2 rfl _ _ _) rfl ?_
      exact ⟨rfl, hB⟩
    | some y =>
      have cD : Calls _ _ _ _ (Still (.tuple #[.string y, .int .i64 0]) w4) := cD
      have e9 : (y, (0 : Int)) = VV := HE9.out
      subst e9
      go_wp2_with (first | (go_at_call 12; refine cD.mono ?_; rintro e w5 ⟨rfl, rfl⟩) | fail)
      refine bodyPost_ret (results_tmp2 rfl _ _ _) rfl ?_
      exact ⟨rfl, hB⟩
  · have hE2 : (E != 0) = true := by simpa using hE
    have e9 := HV.out
    rw [if_neg hE] at e9
    subst e9
    clear hE
    go_wp2_with (first
      | (go_at_call 94; refine (cW _).mono ?_; rintro e w2 ⟨rfl, j2⟩)
      | fail)
    refine bodyPost_ret (results_tmp2 rfl _ _ _) rfl ?_
    exact ⟨rfl, (D0.call j2).below⟩
set_option maxRecDepth 20000 in
set_option maxHeartbeats 4000000 in
theorem wholeL_any (x : Lf) (h1 : x.id.size ≤ 4611686018427387903) (h2 : x.salt.size ≤ 4611686018427387903) (hw : x.words) (w : World) (hT : TabU w) : Calls Tryz.prog 56 #[.agg (lfF), x.val] w (Tells (.tuple #[.string (tellP 76 lfY wrLf x).1, .int .i64 (tellP 76 lfY wrLf x).2]) w.heap.size w) := by
  obtain ⟨xp, xi, xs, xh, xl⟩ := x
  simp only at h1 h2
  show Calls _ _ #[_, .agg (lfB xp xi xs xh xl)] _ _
  obtain ⟨VV, hVV⟩ : ∃ VV, tellP 76 lfY wrLf ⟨xp, xi, xs, xh, xl⟩ = VV := ⟨_, rfl⟩
  rw [hVV]
  unfold tellP at hVV
  have cW := fun u hu => wrL_any ⟨xp, xi, xs, xh, xl⟩ (by simp only; omega) (by simp only; omega) u hu
  simp only [Lf.val] at cW
  obtain ⟨E, hE⟩ : ∃ E, wrLf ⟨xp, xi, xs, xh, xl⟩ = E := ⟨_, rfl⟩
  rw [hE] at cW hVV
  clear hE
  obtain ⟨Y, hY⟩ : ∃ Y, lfY ⟨xp, xi, xs, xh, xl⟩ = Y := ⟨_, rfl⟩
  rw [hY] at hVV
  have cP := fun g o u hu => putL_any g o ⟨xp, xi, xs, xh, xl⟩ h1 h2 hw u hu
  simp only [Lf.val] at cP
  rw [hY] at cP
  clear hY
  have HV := hideIt hVV
  clear hVV
  have D0 := ((Has.start w).add 118 (lfF)).addAt 28 (lfB xp xi xs xh xl) (g := w.heap.size + 1) (by simp)
  go_enter Tryz.func56, Tryz.ntmps56
  go_upto_region 1 with fail
  change Code.wp _ _ _ _ ((w.alloc (.cells (lfF) 118)).alloc (.cells (lfB xp xi xs xh xl) 28))
  obtain ⟨b, hb⟩ : ∃ b, w.heap.size + 1 = b := ⟨_, rfl⟩
  have hb0 : (w.alloc (.cells (lfF) 118)).heap.size = w.heap.size + 1 := by simp
  try rw [hb0]
  rw [hb] at D0 ⊢
  generalize (w.alloc (.cells (lfF) 118)).alloc (.cells (lfB xp xi xs xh xl) 28) = V0 at *
  clear hb0
  have L0 := D0.below
  have T0 := hT.call L0
  obtain ⟨⟨p0, p1, p2, p3⟩, -, hin0⟩ := (D0.box 1).four
  have hinb := (D0.box 0).inside
  have b0 : V0.cell? ⟨b, 0, none⟩ = some (.bool xp) := (D0.box 0).read 0
  have b1 : V0.cell? ⟨b, 1, none⟩ = some (.string xi) := (D0.box 0).read 1
  have b2 : V0.cell? ⟨b, 2, none⟩ = some (.string xs) := (D0.box 0).read 2
  have b3 : V0.cell? ⟨b, 3, none⟩ = some (.int .u64 xh) := (D0.box 0).read 3
  have b4 : V0.cell? ⟨b, 4, none⟩ = some (.int .u64 xl) := (D0.box 0).read 4
  by_cases hE : E = 0
  · have hE2 : (E != 0) = false := by simpa using hE
    have e9 := HV.out
    rw [if_pos hE] at e9
    have HE9 := hideIt e9
    clear hE e9 HV
    go_upto_region 5 with (first
      | (go_at_call 101; refine (cW _ T0).mono ?_; rintro e w2 ⟨rfl, j2⟩)
      | fail)
    change Code.wp _ _ _ _ (w2.alloc (.cells #[.pointer none, .int .i64 0, .bool false] 45))
    have D2 := (D0.call j2).past (.cells #[.pointer none, .int .i64 0, .bool false] 45)
    have LV := D2.below
    have O0 := out_new (Box.made w2 45 #[.pointer none, .int .i64 0, .bool false])
    have hg : b < w2.heap.size := ((D0.call j2).box 0).inside

    obtain ⟨g, hgg⟩ : ∃ g, w2.heap.size = g := ⟨_, rfl⟩
    rw [hgg] at O0 hg ⊢
    have hP := O0.port
    generalize w2.alloc (.cells #[.pointer none, .int .i64 0, .bool false] 45) = V2 at *
    have W0 := ((Wp.start O0).with (D2.box 0) (by omega)).with (D2.box 1) (by omega)
    clear p0 p1 p2 p3 hin0 hinb b0 b1 b2 b3 b4
    obtain ⟨⟨p0, p1, p2, p3⟩, -, hin0⟩ := (W0.box 0).four
    have cB := fun u hu => out_byte g (some ⟨#[]⟩) 76 76 rfl u hu
    go_upto_region 6 with (first | (go_at_call 96; refine (cB _ W0.outS).mono ?_; rintro e w3 ⟨rfl, s3, k3⟩) | fail)
    have W1 := W0.put s3 k3
    clear p0 p1 p2 p3 hin0 cB
    obtain ⟨⟨p0, p1, p2, p3⟩, -, hin0⟩ := (W1.box 0).four
    have hinb := (W1.box 1).inside
    have b0 : w3.cell? ⟨b, 0, none⟩ = some (.bool xp) := (W1.box 1).read 0
    have b1 : w3.cell? ⟨b, 1, none⟩ = some (.string xi) := (W1.box 1).read 1
    have b2 : w3.cell? ⟨b, 2, none⟩ = some (.string xs) := (W1.box 1).read 2
    have b3 : w3.cell? ⟨b, 3, none⟩ = some (.int .u64 xh) := (W1.box 1).read 3
    have b4 : w3.cell? ⟨b, 4, none⟩ = some (.int .u64 xl) := (W1.box 1).read 4

    obtain ⟨O, hO⟩ : ∃ O, putB (putB (some ⟨#[]⟩) (ofL [76])) (ofL Y) = O := ⟨_, rfl⟩
    have e9 := HE9.out
    rw [whole_of hO] at e9
    have HE9 := hideIt e9
    clear e9
    go_upto_region 7 with (first | (go_at_call 97; refine (cP _ _ _ W1.outS).mono ?_; rintro e w4 ⟨rfl, s4, k4⟩) | fail)
    rw [hO] at s4
    have W2 := W1.put s4 k4
    have cD := out_done g O w4 s4
    have hB : Below w.heap.size w w4 := chain0 LV (W2.off.below (fun i hi => by have : i = g := hi; omega) LV.size)
    clear hO
    cases O with
    | none =>
      have cD : Calls _ _ _ _ (Still (.tuple #[.string ⟨#[]⟩, .int .i64 3]) w4) := cD
      have e9 : ((⟨#[]⟩ : ByteArray), (3 : Int)) = VV := HE9.out
      subst e9
      go_wp2_with (first | (go_at_call 12; refine cD.mono ?_; rintro e w5 ⟨rfl, rfl⟩) | fail)
      refine bodyPost_ret (results_tmp2 rfl _ _ _) rfl ?_
      exact ⟨rfl, hB⟩
    | some y =>
      have cD : Calls _ _ _ _ (Still (.tuple #[.string y, .int .i64 0]) w4) := cD
      have e9 : (y, (0 : Int)) = VV := HE9.out
      subst e9
      go_wp2_with (first | (go_at_call 12; refine cD.mono ?_; rintro e w5 ⟨rfl, rfl⟩) | fail)
      refine bodyPost_ret (results_tmp2 rfl _ _ _) rfl ?_
      exact ⟨rfl, hB⟩
  · have hE2 : (E != 0) = true := by simpa using hE
    have e9 := HV.out
    rw [if_neg hE] at e9
    subst e9
    clear hE
    go_wp2_with (first
      | (go_at_call 101; refine (cW _ T0).mono ?_; rintro e w2 ⟨rfl, j2⟩)
      | fail)
    refine bodyPost_ret (results_tmp2 rfl _ _ _) rfl ?_
    exact ⟨rfl, (D0.call j2).below⟩
end Go.Proofs.YtmflhodiibjpnaaGreatDoor
/-
  pack, walked: the whole bytes of entries.
-/
namespace Go.Proofs.YtmflhodiibjpnaaGreatDoor
set_option linter.unusedVariables false
set_option linter.unusedSimpArgs false
set_option maxRecDepth 10000
open Go.RowKit

theorem LfOk.fit {x : Lf} (h : LfOk x) : LfFit x := ⟨by have := h.1.1; omega, by have := h.1.2; omega⟩
theorem AllNd.fit {l : List Nd} (h : AllNd l) : NsFit l := ⟨by have := h.1; omega, fun y hy => by have := (h.2 y hy).1; omega⟩
theorem AllCh.fit {l : List ChP} (h : AllCh l) : CsFit l := ⟨by have := h.1; omega, fun y hy => ⟨(h.2 y hy).2.1.fit, (h.2 y hy).2.2.fit⟩⟩
set_option maxRecDepth 20000 in
set_option maxHeartbeats 4000000 in
theorem wholeE_any (x : EnP) (hx : LfOk x.leaf) (hp : Word x.pos) (A : Option Addr) (c a p s k : Nat) (hl : AllNd x.sides) (w : World) (hT : TabU w) (hR : ndS.Row w w.heap.size A x.sides) (hA : IsLf w a) (hK : IsPr w p s k) : Calls Tryz.prog 60 #[.agg (enF a p), .agg (enB x.leaf.pad x.leaf.id x.leaf.salt x.leaf.h x.leaf.l x.pos A x.sides.length c)] w (Tells (.tuple #[.string (tellP 69 enY wrE x).1, .int .i64 (tellP 69 enY wrE x).2]) w.heap.size w) := by
  obtain ⟨⟨xp, xi, xs, xh, xl⟩, q, L⟩ := x
  simp only at hx hp hl hR
  show Calls _ _ #[_, .agg (enB xp xi xs xh xl q A L.length c)] _ _
  obtain ⟨VV, hVV⟩ : ∃ VV, tellP 69 enY wrE ⟨⟨xp, xi, xs, xh, xl⟩, q, L⟩ = VV := ⟨_, rfl⟩
  rw [hVV]
  unfold tellP at hVV
  have cW := fun u h1 h2 h3 h4 => wrE_any ⟨⟨xp, xi, xs, xh, xl⟩, q, L⟩ hx.fit A c a p s k hl.fit u h1 h2 h3 h4
  simp only at cW
  obtain ⟨E, hE⟩ : ∃ E, wrE ⟨⟨xp, xi, xs, xh, xl⟩, q, L⟩ = E := ⟨_, rfl⟩
  rw [hE] at cW hVV
  clear hE
  obtain ⟨Y, hY⟩ : ∃ Y, enY ⟨⟨xp, xi, xs, xh, xl⟩, q, L⟩ = Y := ⟨_, rfl⟩
  rw [hY] at hVV
  have cP := fun g o u h1 h2 h3 h4 => putE_any g o ⟨⟨xp, xi, xs, xh, xl⟩, q, L⟩ hx hp A c a p s k hl u h1 h2 h3 h4
  simp only at cP
  rw [hY] at cP
  clear hY
  have HV := hideIt hVV
  clear hVV
  have D0 := ((Has.start w).add 125 (enF a p)).addAt 33 (enB xp xi xs xh xl q A L.length c) (g := w.heap.size + 1) (by simp)
  go_enter Tryz.func60, Tryz.ntmps60
  go_upto_region 1 with fail
  change Code.wp _ _ _ _ ((w.alloc (.cells (enF a p) 125)).alloc (.cells (enB xp xi xs xh xl q A L.length c) 33))
  obtain ⟨b, hb⟩ : ∃ b, w.heap.size + 1 = b := ⟨_, rfl⟩
  have hb0 : (w.alloc (.cells (enF a p) 125)).heap.size = w.heap.size + 1 := by simp
  try rw [hb0]
  rw [hb] at D0 ⊢
  generalize (w.alloc (.cells (enF a p) 125)).alloc (.cells (enB xp xi xs xh xl q A L.length c) 33) = V0 at *
  clear hb0
  have L0 := D0.below
  have hR0 := hR.on L0
  have hA0 := hA.call L0
  have hK0 := hK.call L0
  have T0 := hT.call L0
  obtain ⟨⟨p0, p1, p2, p3⟩, -, hin0⟩ := (D0.box 1).four
  have hinb := (D0.box 0).inside
  have b0 : V0.cell? ⟨b, 0, none⟩ = some (.bool xp) := (D0.box 0).read 0
  have b1 : V0.cell? ⟨b, 1, none⟩ = some (.string xi) := (D0.box 0).read 1
  have b2 : V0.cell? ⟨b, 2, none⟩ = some (.string xs) := (D0.box 0).read 2
  have b3 : V0.cell? ⟨b, 3, none⟩ = some (.int .u64 xh) := (D0.box 0).read 3
  have b4 : V0.cell? ⟨b, 4, none⟩ = some (.int .u64 xl) := (D0.box 0).read 4
  have b5 : V0.cell? ⟨b, 5, none⟩ = some (.int .u64 q) := (D0.box 0).read 5
  have b6 : V0.cell? ⟨b, 6, none⟩ = some (.slice A L.length c) := (D0.box 0).read 6
  by_cases hE : E = 0
  · have hE2 : (E != 0) = false := by simpa using hE
    have e9 := HV.out
    rw [if_pos hE] at e9
    have HE9 := hideIt e9
    clear hE e9 HV
    go_upto_region 5 with (first
      | (go_at_call 109; refine (cW _ T0 hR0 hA0 hK0).mono ?_; rintro e w2 ⟨rfl, j2⟩)
      | fail)
    change Code.wp _ _ _ _ (w2.alloc (.cells #[.pointer none, .int .i64 0, .bool false] 45))
    have D2 := (D0.call j2).past (.cells #[.pointer none, .int .i64 0, .bool false] 45)
    have LV := D2.below
    have O0 := out_new (Box.made w2 45 #[.pointer none, .int .i64 0, .bool false])
    have hg : b < w2.heap.size := ((D0.call j2).box 0).inside
    have j3 := chainA j2 (.cells #[.pointer none, .int .i64 0, .bool false] 45)
    have hR1 := hR0.on j3
    have hRg := fun (g : Nat) (e : w2.heap.size = g) => (hR0.on j2).apart (g := g) (by omega)
    have hA1 := hA0.call j3
    have hK1 := hK0.call j3
    obtain ⟨g, hgg⟩ : ∃ g, w2.heap.size = g := ⟨_, rfl⟩
    rw [hgg] at O0 hg ⊢
    have hP := O0.port
    generalize w2.alloc (.cells #[.pointer none, .int .i64 0, .bool false] 45) = V2 at *
    have W0 := ((Wp.start O0).with (D2.box 0) (by omega)).with (D2.box 1) (by omega)
    clear p0 p1 p2 p3 hin0 hinb b0 b1 b2 b3 b4 b5 b6
    obtain ⟨⟨p0, p1, p2, p3⟩, -, hin0⟩ := (W0.box 0).four
    have cB := fun u hu => out_byte g (some ⟨#[]⟩) 69 69 rfl u hu
    go_upto_region 6 with (first | (go_at_call 96; refine (cB _ W0.outS).mono ?_; rintro e w3 ⟨rfl, s3, k3⟩) | fail)
    have W1 := W0.put s3 k3
    clear p0 p1 p2 p3 hin0 cB
    obtain ⟨⟨p0, p1, p2, p3⟩, -, hin0⟩ := (W1.box 0).four
    have hinb := (W1.box 1).inside
    have b0 : w3.cell? ⟨b, 0, none⟩ = some (.bool xp) := (W1.box 1).read 0
    have b1 : w3.cell? ⟨b, 1, none⟩ = some (.string xi) := (W1.box 1).read 1
    have b2 : w3.cell? ⟨b, 2, none⟩ = some (.string xs) := (W1.box 1).read 2
    have b3 : w3.cell? ⟨b, 3, none⟩ = some (.int .u64 xh) := (W1.box 1).read 3
    have b4 : w3.cell? ⟨b, 4, none⟩ = some (.int .u64 xl) := (W1.box 1).read 4
    have b5 : w3.cell? ⟨b, 5, none⟩ = some (.int .u64 q) := (W1.box 1).read 5
    have b6 : w3.cell? ⟨b, 6, none⟩ = some (.slice A L.length c) := (W1.box 1).read 6
    have hR2 := (hR1.off k3 (Nat.le_refl _) (hRg g hgg)).more k3.size
    have hA2 := hA1.off hP k3
    have hK2 := hK1.off hP k3
    obtain ⟨O, hO⟩ : ∃ O, putB (putB (some ⟨#[]⟩) (ofL [69])) (ofL Y) = O := ⟨_, rfl⟩
    have e9 := HE9.out
    rw [whole_of hO] at e9
    have HE9 := hideIt e9
    clear e9
    go_upto_region 7 with (first | (go_at_call 107; refine (cP _ _ _ W1.outS hR2 hA2 hK2).mono ?_; rintro e w4 ⟨rfl, s4, k4⟩) | fail)
    rw [hO] at s4
    have W2 := W1.put s4 k4
    have cD := out_done g O w4 s4
    have hB : Below w.heap.size w w4 := chain0 LV (W2.off.below (fun i hi => by have : i = g := hi; omega) LV.size)
    clear hO
    cases O with
    | none =>
      have cD : Calls _ _ _ _ (Still (.tuple #[.string ⟨#[]⟩, .int .i64 3]) w4) := cD
      have e9 : ((⟨#[]⟩ : ByteArray), (3 : Int)) = VV := HE9.out
      subst e9
      go_wp2_with (first | (go_at_call 12; refine cD.mono ?_; rintro e w5 ⟨rfl, rfl⟩) | fail)
      refine bodyPost_ret (results_tmp2 rfl _ _ _) rfl ?_
      exact ⟨rfl, hB⟩
    | some y =>
      have cD : Calls _ _ _ _ (Still (.tuple #[.string y, .int .i64 0]) w4) := cD
      have e9 : (y, (0 : Int)) = VV := HE9.out
      subst e9
      go_wp2_with (first | (go_at_call 12; refine cD.mono ?_; rintro e w5 ⟨rfl, rfl⟩) | fail)
      refine bodyPost_ret (results_tmp2 rfl _ _ _) rfl ?_
      exact ⟨rfl, hB⟩
  · have hE2 : (E != 0) = true := by simpa using hE
    have e9 := HV.out
    rw [if_neg hE] at e9
    subst e9
    clear hE
    go_wp2_with (first
      | (go_at_call 109; refine (cW _ T0 hR0 hA0 hK0).mono ?_; rintro e w2 ⟨rfl, j2⟩)
      | fail)
    refine bodyPost_ret (results_tmp2 rfl _ _ _) rfl ?_
    exact ⟨rfl, (D0.call j2).below⟩
end Go.Proofs.YtmflhodiibjpnaaGreatDoor
/-
  pack, walked: the whole bytes of ranges, diffs.
-/
namespace Go.Proofs.YtmflhodiibjpnaaGreatDoor
set_option linter.unusedVariables false
set_option linter.unusedSimpArgs false
set_option maxRecDepth 10000
open Go.RowKit

set_option maxRecDepth 20000 in
set_option maxHeartbeats 4000000 in
theorem wholeG_any (x : RgP) (hp : Word x.a ∧ Word x.b) (A B : Option Addr) (c d s k : Nat) (hl : AllNd x.ins) (hm : AllNd x.outs) (w : World) (hR : ndS.Row w w.heap.size A x.ins) (hS : ndS.Row w w.heap.size B x.outs) (hK : IsNr w s k) : Calls Tryz.prog 65 #[.agg (rgF s), .agg (rgB x.a x.b A x.ins.length c B x.outs.length d)] w (Tells (.tuple #[.string (tellP 71 rgY wrG x).1, .int .i64 (tellP 71 rgY wrG x).2]) w.heap.size w) := by
  obtain ⟨xa, xb, L, M⟩ := x
  simp only at hp hl hm hR hS
  show Calls _ _ #[_, .agg (rgB xa xb A L.length c B M.length d)] _ _
  obtain ⟨VV, hVV⟩ : ∃ VV, tellP 71 rgY wrG ⟨xa, xb, L, M⟩ = VV := ⟨_, rfl⟩
  rw [hVV]
  unfold tellP at hVV
  have cW := fun u h1 h2 h3 => wrG_any ⟨xa, xb, L, M⟩ A B c d s k hl.fit hm.fit u h1 h2 h3
  simp only at cW
  obtain ⟨E, hE⟩ : ∃ E, wrG ⟨xa, xb, L, M⟩ = E := ⟨_, rfl⟩
  rw [hE] at cW hVV
  clear hE
  obtain ⟨Y, hY⟩ : ∃ Y, rgY ⟨xa, xb, L, M⟩ = Y := ⟨_, rfl⟩
  rw [hY] at hVV
  have cP := fun g o u h1 h2 h3 h4 => putG_any g o ⟨xa, xb, L, M⟩ hp A B c d s k hl hm u h1 h2 h3 h4
  simp only at cP
  rw [hY] at cP
  clear hY
  have HV := hideIt hVV
  clear hVV
  have D0 := ((Has.start w).add 133 (rgF s)).addAt 35 (rgB xa xb A L.length c B M.length d) (g := w.heap.size + 1) (by simp)
  go_enter Tryz.func65, Tryz.ntmps65
  go_upto_region 1 with fail
  change Code.wp _ _ _ _ ((w.alloc (.cells (rgF s) 133)).alloc (.cells (rgB xa xb A L.length c B M.length d) 35))
  obtain ⟨b, hb⟩ : ∃ b, w.heap.size + 1 = b := ⟨_, rfl⟩
  have hb0 : (w.alloc (.cells (rgF s) 133)).heap.size = w.heap.size + 1 := by simp
  try rw [hb0]
  rw [hb] at D0 ⊢
  generalize (w.alloc (.cells (rgF s) 133)).alloc (.cells (rgB xa xb A L.length c B M.length d) 35) = V0 at *
  clear hb0
  have L0 := D0.below
  have hR0 := hR.on L0
  have hS0 := hS.on L0
  have hK0 := hK.call L0
  obtain ⟨⟨p0, p1, p2, p3⟩, -, hin0⟩ := (D0.box 1).four
  have hinb := (D0.box 0).inside
  have b0 : V0.cell? ⟨b, 0, none⟩ = some (.int .u64 xa) := (D0.box 0).read 0
  have b1 : V0.cell? ⟨b, 1, none⟩ = some (.int .u64 xb) := (D0.box 0).read 1
  have b2 : V0.cell? ⟨b, 2, none⟩ = some (.slice A L.length c) := (D0.box 0).read 2
  have b3 : V0.cell? ⟨b, 3, none⟩ = some (.slice B M.length d) := (D0.box 0).read 3
  by_cases hE : E = 0
  · have hE2 : (E != 0) = false := by simpa using hE
    have e9 := HV.out
    rw [if_pos hE] at e9
    have HE9 := hideIt e9
    clear hE e9 HV
    go_upto_region 5 with (first
      | (go_at_call 115; refine (cW _ hR0 hS0 hK0).mono ?_; rintro e w2 ⟨rfl, j2⟩)
      | fail)
    change Code.wp _ _ _ _ (w2.alloc (.cells #[.pointer none, .int .i64 0, .bool false] 45))
    have D2 := (D0.call j2).past (.cells #[.pointer none, .int .i64 0, .bool false] 45)
    have LV := D2.below
    have O0 := out_new (Box.made w2 45 #[.pointer none, .int .i64 0, .bool false])
    have hg : b < w2.heap.size := ((D0.call j2).box 0).inside
    have j3 := chainA j2 (.cells #[.pointer none, .int .i64 0, .bool false] 45)
    have hR1 := hR0.on j3
    have hRg := fun (g : Nat) (e : w2.heap.size = g) => (hR0.on j2).apart (g := g) (by omega)
    have hS1 := hS0.on j3
    have hSg := fun (g : Nat) (e : w2.heap.size = g) => (hS0.on j2).apart (g := g) (by omega)
    have hK1 := hK0.call j3
    obtain ⟨g, hgg⟩ : ∃ g, w2.heap.size = g := ⟨_, rfl⟩
    rw [hgg] at O0 hg ⊢
    have hP := O0.port
    generalize w2.alloc (.cells #[.pointer none, .int .i64 0, .bool false] 45) = V2 at *
    have W0 := ((Wp.start O0).with (D2.box 0) (by omega)).with (D2.box 1) (by omega)
    clear p0 p1 p2 p3 hin0 hinb b0 b1 b2 b3
    obtain ⟨⟨p0, p1, p2, p3⟩, -, hin0⟩ := (W0.box 0).four
    have cB := fun u hu => out_byte g (some ⟨#[]⟩) 71 71 rfl u hu
    go_upto_region 6 with (first | (go_at_call 96; refine (cB _ W0.outS).mono ?_; rintro e w3 ⟨rfl, s3, k3⟩) | fail)
    have W1 := W0.put s3 k3
    clear p0 p1 p2 p3 hin0 cB
    obtain ⟨⟨p0, p1, p2, p3⟩, -, hin0⟩ := (W1.box 0).four
    have hinb := (W1.box 1).inside
    have b0 : w3.cell? ⟨b, 0, none⟩ = some (.int .u64 xa) := (W1.box 1).read 0
    have b1 : w3.cell? ⟨b, 1, none⟩ = some (.int .u64 xb) := (W1.box 1).read 1
    have b2 : w3.cell? ⟨b, 2, none⟩ = some (.slice A L.length c) := (W1.box 1).read 2
    have b3 : w3.cell? ⟨b, 3, none⟩ = some (.slice B M.length d) := (W1.box 1).read 3
    have hR2 := (hR1.off k3 (Nat.le_refl _) (hRg g hgg)).more k3.size
    have hS2 := (hS1.off k3 (Nat.le_refl _) (hSg g hgg)).more k3.size
    have hK2 := hK1.off hP k3
    obtain ⟨O, hO⟩ : ∃ O, putB (putB (some ⟨#[]⟩) (ofL [71])) (ofL Y) = O := ⟨_, rfl⟩
    have e9 := HE9.out
    rw [whole_of hO] at e9
    have HE9 := hideIt e9
    clear e9
    go_upto_region 7 with (first | (go_at_call 113; refine (cP _ _ _ W1.outS hR2 hS2 hK2).mono ?_; rintro e w4 ⟨rfl, s4, k4⟩) | fail)
    rw [hO] at s4
    have W2 := W1.put s4 k4
    have cD := out_done g O w4 s4
    have hB : Below w.heap.size w w4 := chain0 LV (W2.off.below (fun i hi => by have : i = g := hi; omega) LV.size)
    clear hO
    cases O with
    | none =>
      have cD : Calls _ _ _ _ (Still (.tuple #[.string ⟨#[]⟩, .int .i64 3]) w4) := cD
      have e9 : ((⟨#[]⟩ : ByteArray), (3 : Int)) = VV := HE9.out
      subst e9
      go_wp2_with (first | (go_at_call 12; refine cD.mono ?_; rintro e w5 ⟨rfl, rfl⟩) | fail)
      refine bodyPost_ret (results_tmp2 rfl _ _ _) rfl ?_
      exact ⟨rfl, hB⟩
    | some y =>
      have cD : Calls _ _ _ _ (Still (.tuple #[.string y, .int .i64 0]) w4) := cD
      have e9 : (y, (0 : Int)) = VV := HE9.out
      subst e9
      go_wp2_with (first | (go_at_call 12; refine cD.mono ?_; rintro e w5 ⟨rfl, rfl⟩) | fail)
      refine bodyPost_ret (results_tmp2 rfl _ _ _) rfl ?_
      exact ⟨rfl, hB⟩
  · have hE2 : (E != 0) = true := by simpa using hE
    have e9 := HV.out
    rw [if_neg hE] at e9
    subst e9
    clear hE
    go_wp2_with (first
      | (go_at_call 115; refine (cW _ hR0 hS0 hK0).mono ?_; rintro e w2 ⟨rfl, j2⟩)
      | fail)
    refine bodyPost_ret (results_tmp2 rfl _ _ _) rfl ?_
    exact ⟨rfl, (D0.call j2).below⟩
set_option maxRecDepth 20000 in
set_option maxHeartbeats 4000000 in
theorem wholeD_any (x : DfP) (A B : Option Addr) (c d q m i a k : Nat) (hl : AllCh x.chs) (hm : AllNd x.fr) (w : World) (hT : TabU w) (hR : chS.Row w w.heap.size A x.chs) (hS : ndS.Row w w.heap.size B x.fr) (hC : IsCr w q i a) (hK : IsNr w m k) : Calls Tryz.prog 67 #[.agg (dfF q m), .agg (dfB A x.chs.length c B x.fr.length d)] w (Tells (.tuple #[.string (tellP 68 dfY wrD x).1, .int .i64 (tellP 68 dfY wrD x).2]) w.heap.size w) := by
  obtain ⟨L, M⟩ := x
  simp only at hl hm hR hS
  show Calls _ _ #[_, .agg (dfB A L.length c B M.length d)] _ _
  obtain ⟨VV, hVV⟩ : ∃ VV, tellP 68 dfY wrD ⟨L, M⟩ = VV := ⟨_, rfl⟩
  rw [hVV]
  unfold tellP at hVV
  have cW := fun u h1 h2 h3 h4 h5 => wrD_any ⟨L, M⟩ A B c d q m i a k hl.fit hm.fit u h1 h2 h3 h4 h5
  simp only at cW
  obtain ⟨E, hE⟩ : ∃ E, wrD ⟨L, M⟩ = E := ⟨_, rfl⟩
  rw [hE] at cW hVV
  clear hE
  obtain ⟨Y, hY⟩ : ∃ Y, dfY ⟨L, M⟩ = Y := ⟨_, rfl⟩
  rw [hY] at hVV
  have cP := fun g o u h1 h2 h3 h4 h5 => putD_any g o ⟨L, M⟩ A B c d q m i a k hl hm u h1 h2 h3 h4 h5
  simp only at cP
  rw [hY] at cP
  clear hY
  have HV := hideIt hVV
  clear hVV
  have D0 := ((Has.start w).add 139 (dfF q m)).addAt 38 (dfB A L.length c B M.length d) (g := w.heap.size + 1) (by simp)
  go_enter Tryz.func67, Tryz.ntmps67
  go_upto_region 1 with fail
  change Code.wp _ _ _ _ ((w.alloc (.cells (dfF q m) 139)).alloc (.cells (dfB A L.length c B M.length d) 38))
  obtain ⟨b, hb⟩ : ∃ b, w.heap.size + 1 = b := ⟨_, rfl⟩
  have hb0 : (w.alloc (.cells (dfF q m) 139)).heap.size = w.heap.size + 1 := by simp
  try rw [hb0]
  rw [hb] at D0 ⊢
  generalize (w.alloc (.cells (dfF q m) 139)).alloc (.cells (dfB A L.length c B M.length d) 38) = V0 at *
  clear hb0
  have L0 := D0.below
  have hR0 := hR.on L0
  have hS0 := hS.on L0
  have hC0 := hC.call L0
  have hK0 := hK.call L0
  have T0 := hT.call L0
  obtain ⟨⟨p0, p1, p2, p3⟩, -, hin0⟩ := (D0.box 1).four
  have hinb := (D0.box 0).inside
  have b0 : V0.cell? ⟨b, 0, none⟩ = some (.slice A L.length c) := (D0.box 0).read 0
  have b1 : V0.cell? ⟨b, 1, none⟩ = some (.slice B M.length d) := (D0.box 0).read 1
  by_cases hE : E = 0
  · have hE2 : (E != 0) = false := by simpa using hE
    have e9 := HV.out
    rw [if_pos hE] at e9
    have HE9 := hideIt e9
    clear hE e9 HV
    go_upto_region 5 with (first
      | (go_at_call 120; refine (cW _ T0 hR0 hS0 hC0 hK0).mono ?_; rintro e w2 ⟨rfl, j2⟩)
      | fail)
    change Code.wp _ _ _ _ (w2.alloc (.cells #[.pointer none, .int .i64 0, .bool false] 45))
    have D2 := (D0.call j2).past (.cells #[.pointer none, .int .i64 0, .bool false] 45)
    have LV := D2.below
    have O0 := out_new (Box.made w2 45 #[.pointer none, .int .i64 0, .bool false])
    have hg : b < w2.heap.size := ((D0.call j2).box 0).inside
    have j3 := chainA j2 (.cells #[.pointer none, .int .i64 0, .bool false] 45)
    have hR1 := hR0.on j3
    have hRg := fun (g : Nat) (e : w2.heap.size = g) => (hR0.on j2).apart (g := g) (by omega)
    have hS1 := hS0.on j3
    have hSg := fun (g : Nat) (e : w2.heap.size = g) => (hS0.on j2).apart (g := g) (by omega)
    have hC1 := hC0.call j3
    have hK1 := hK0.call j3
    obtain ⟨g, hgg⟩ : ∃ g, w2.heap.size = g := ⟨_, rfl⟩
    rw [hgg] at O0 hg ⊢
    have hP := O0.port
    generalize w2.alloc (.cells #[.pointer none, .int .i64 0, .bool false] 45) = V2 at *
    have W0 := ((Wp.start O0).with (D2.box 0) (by omega)).with (D2.box 1) (by omega)
    clear p0 p1 p2 p3 hin0 hinb b0 b1
    obtain ⟨⟨p0, p1, p2, p3⟩, -, hin0⟩ := (W0.box 0).four
    have cB := fun u hu => out_byte g (some ⟨#[]⟩) 68 68 rfl u hu
    go_upto_region 6 with (first | (go_at_call 96; refine (cB _ W0.outS).mono ?_; rintro e w3 ⟨rfl, s3, k3⟩) | fail)
    have W1 := W0.put s3 k3
    clear p0 p1 p2 p3 hin0 cB
    obtain ⟨⟨p0, p1, p2, p3⟩, -, hin0⟩ := (W1.box 0).four
    have hinb := (W1.box 1).inside
    have b0 : w3.cell? ⟨b, 0, none⟩ = some (.slice A L.length c) := (W1.box 1).read 0
    have b1 : w3.cell? ⟨b, 1, none⟩ = some (.slice B M.length d) := (W1.box 1).read 1
    have hR2 := (hR1.off k3 (Nat.le_refl _) (hRg g hgg)).more k3.size
    have hS2 := (hS1.off k3 (Nat.le_refl _) (hSg g hgg)).more k3.size
    have hC2 := hC1.off hP k3
    have hK2 := hK1.off hP k3
    obtain ⟨O, hO⟩ : ∃ O, putB (putB (some ⟨#[]⟩) (ofL [68])) (ofL Y) = O := ⟨_, rfl⟩
    have e9 := HE9.out
    rw [whole_of hO] at e9
    have HE9 := hideIt e9
    clear e9
    go_upto_region 7 with (first | (go_at_call 118; refine (cP _ _ _ W1.outS hR2 hS2 hC2 hK2).mono ?_; rintro e w4 ⟨rfl, s4, k4⟩) | fail)
    rw [hO] at s4
    have W2 := W1.put s4 k4
    have cD := out_done g O w4 s4
    have hB : Below w.heap.size w w4 := chain0 LV (W2.off.below (fun i hi => by have : i = g := hi; omega) LV.size)
    clear hO
    cases O with
    | none =>
      have cD : Calls _ _ _ _ (Still (.tuple #[.string ⟨#[]⟩, .int .i64 3]) w4) := cD
      have e9 : ((⟨#[]⟩ : ByteArray), (3 : Int)) = VV := HE9.out
      subst e9
      go_wp2_with (first | (go_at_call 12; refine cD.mono ?_; rintro e w5 ⟨rfl, rfl⟩) | fail)
      refine bodyPost_ret (results_tmp2 rfl _ _ _) rfl ?_
      exact ⟨rfl, hB⟩
    | some y =>
      have cD : Calls _ _ _ _ (Still (.tuple #[.string y, .int .i64 0]) w4) := cD
      have e9 : (y, (0 : Int)) = VV := HE9.out
      subst e9
      go_wp2_with (first | (go_at_call 12; refine cD.mono ?_; rintro e w5 ⟨rfl, rfl⟩) | fail)
      refine bodyPost_ret (results_tmp2 rfl _ _ _) rfl ?_
      exact ⟨rfl, hB⟩
  · have hE2 : (E != 0) = true := by simpa using hE
    have e9 := HV.out
    rw [if_neg hE] at e9
    subst e9
    clear hE
    go_wp2_with (first
      | (go_at_call 120; refine (cW _ T0 hR0 hS0 hC0 hK0).mono ?_; rintro e w2 ⟨rfl, j2⟩)
      | fail)
    refine bodyPost_ret (results_tmp2 rfl _ _ _) rfl ?_
    exact ⟨rfl, (D0.call j2).below⟩
end Go.Proofs.YtmflhodiibjpnaaGreatDoor
