/-
  Package sha's digest, Sum, Write, Copy, walked: the digest of all that was taken.
-/
import Derived.Test.YtkmnfogcocppjaaDoorU5Take
import Derived.Test.YtkmnfogcocppjaaDoorU5Pad
namespace Go.Proofs.YtkmnfogcocppjaaDoor
set_option linter.unusedVariables false
set_option linter.unusedSimpArgs false
set_option maxRecDepth 10000
open Go.RowKit

/-- A running one that took a text, at the beginning of a block of whatever type, X behind it. -/
def ShaIn (T : TypeId) (X : List Value) (w : World) (g : Nat) (t : List UInt8) : Prop := ∃ lf : ByteArray, lf.data.toList = left t ∧ Box w g T (shaW X (fin t) lf (t.length : Int))
/-- One that stands alone. -/
abbrev ShaAt (w : World) (g : Nat) (t : List UInt8) : Prop := ShaIn 93 [] w g t
theorem stI_step (s : St) (k : Nat) (hk : k < 8) : (stI s).take (4 * (k + 1)) = (stI s).take (4 * k) ++ wbI (s.at k) := by
  match k, hk with
  | 0, _ => rfl
  | 1, _ => rfl
  | 2, _ => rfl
  | 3, _ => rfl
  | 4, _ => rfl
  | 5, _ => rfl
  | 6, _ => rfl
  | 7, _ => rfl
theorem idx0 (s : St) (w : World) : (Instr.index 90 (.agg #[.int .u32 (iv s.a), .int .u32 (iv s.b), .int .u32 (iv s.c), .int .u32 (iv s.d), .int .u32 (iv s.e), .int .u32 (iv s.f), .int .u32 (iv s.g), .int .u32 (iv s.h)]) (.int .i64 0)).run Tryd.prog w = .ok (.int .u32 (iv s.a)) w := by kernel_rfl
theorem idx1 (s : St) (w : World) : (Instr.index 90 (.agg #[.int .u32 (iv s.a), .int .u32 (iv s.b), .int .u32 (iv s.c), .int .u32 (iv s.d), .int .u32 (iv s.e), .int .u32 (iv s.f), .int .u32 (iv s.g), .int .u32 (iv s.h)]) (.int .i64 1)).run Tryd.prog w = .ok (.int .u32 (iv s.b)) w := by kernel_rfl
theorem idx2 (s : St) (w : World) : (Instr.index 90 (.agg #[.int .u32 (iv s.a), .int .u32 (iv s.b), .int .u32 (iv s.c), .int .u32 (iv s.d), .int .u32 (iv s.e), .int .u32 (iv s.f), .int .u32 (iv s.g), .int .u32 (iv s.h)]) (.int .i64 2)).run Tryd.prog w = .ok (.int .u32 (iv s.c)) w := by kernel_rfl
theorem idx3 (s : St) (w : World) : (Instr.index 90 (.agg #[.int .u32 (iv s.a), .int .u32 (iv s.b), .int .u32 (iv s.c), .int .u32 (iv s.d), .int .u32 (iv s.e), .int .u32 (iv s.f), .int .u32 (iv s.g), .int .u32 (iv s.h)]) (.int .i64 3)).run Tryd.prog w = .ok (.int .u32 (iv s.d)) w := by kernel_rfl
theorem idx4 (s : St) (w : World) : (Instr.index 90 (.agg #[.int .u32 (iv s.a), .int .u32 (iv s.b), .int .u32 (iv s.c), .int .u32 (iv s.d), .int .u32 (iv s.e), .int .u32 (iv s.f), .int .u32 (iv s.g), .int .u32 (iv s.h)]) (.int .i64 4)).run Tryd.prog w = .ok (.int .u32 (iv s.e)) w := by kernel_rfl
theorem idx5 (s : St) (w : World) : (Instr.index 90 (.agg #[.int .u32 (iv s.a), .int .u32 (iv s.b), .int .u32 (iv s.c), .int .u32 (iv s.d), .int .u32 (iv s.e), .int .u32 (iv s.f), .int .u32 (iv s.g), .int .u32 (iv s.h)]) (.int .i64 5)).run Tryd.prog w = .ok (.int .u32 (iv s.f)) w := by kernel_rfl
theorem idx6 (s : St) (w : World) : (Instr.index 90 (.agg #[.int .u32 (iv s.a), .int .u32 (iv s.b), .int .u32 (iv s.c), .int .u32 (iv s.d), .int .u32 (iv s.e), .int .u32 (iv s.f), .int .u32 (iv s.g), .int .u32 (iv s.h)]) (.int .i64 6)).run Tryd.prog w = .ok (.int .u32 (iv s.g)) w := by kernel_rfl
theorem idx7 (s : St) (w : World) : (Instr.index 90 (.agg #[.int .u32 (iv s.a), .int .u32 (iv s.b), .int .u32 (iv s.c), .int .u32 (iv s.d), .int .u32 (iv s.e), .int .u32 (iv s.f), .int .u32 (iv s.g), .int .u32 (iv s.h)]) (.int .i64 7)).run Tryd.prog w = .ok (.int .u32 (iv s.h)) w := by kernel_rfl
theorem index_st (s : St) (k : Nat) (hk : k < 8) (w : World) : (Instr.index 90 (.agg #[.int .u32 (iv s.a), .int .u32 (iv s.b), .int .u32 (iv s.c), .int .u32 (iv s.d), .int .u32 (iv s.e), .int .u32 (iv s.f), .int .u32 (iv s.g), .int .u32 (iv s.h)]) (.int .i64 k)).run Tryd.prog w = .ok (.int .u32 (iv (s.at k))) w := by
  match k, hk with
  | 0, _ => exact idx0 s w
  | 1, _ => exact idx1 s w
  | 2, _ => exact idx2 s w
  | 3, _ => exact idx3 s w
  | 4, _ => exact idx4 s w
  | 5, _ => exact idx5 s w
  | 6, _ => exact idx6 s w
  | 7, _ => exact idx7 s w

set_option maxRecDepth 100000 in
set_option maxHeartbeats 4000000 in
theorem digest_any {T : TypeId} {X : List Value} (t : List UInt8) (ht : t.length < 18446744073709551616) (g : Nat) (w : World) (hT : Tab w) (h : ShaIn T X w g t) : Calls Tryd.prog 56 #[.pointer (some ⟨g, 0, none⟩)] w (Tells (.string (digB t)) w.heap.size w) := by
  obtain ⟨lf, hlf, hbx⟩ := h
  obtain ⟨r0, r1, r2, r3, r4, r5, r6, r7, r8, r9, r10⟩ := hbx.sha
  have hin := hbx.inside
  have hn0 := hT.1
  have be := Box.made w 93 (shaV (fin t) lf (t.length : Int))
  have bg := hbx.past (.cells (shaV (fin t) lf (t.length : Int)) 93)
  have L0 : Below w.heap.size w (w.alloc (.cells (shaV (fin t) lf (t.length : Int)) 93)) := (Below.refl _ w).alloc (Nat.le_refl _) _
  have t0 := hT.past (.cells (shaV (fin t) lf (t.length : Int)) 93)
  have cP := fun u => padding_any t.length ht u
  have hps : (padB t.length).size ≤ 9223372036854775807 := by rw [padB_size]; have := pad_bd t.length; omega
  have cT := fun u hu hb => take_walk 93 [] t lf (padB t.length) hlf (t.length : Int) (by omega) (by omega) hps w.heap.size u hu (by omega) hb
  have hd : digB t = strOfNums (stI (fin (t ++ (padB t.length).data.toList))) := rfl
  have HD := hideIt hd
  clear hd hps
  go_enter Tryd.func56, Tryd.ntmps56
  go_upto_region 2 with fail
  change Code.wp _ _ _ _ (w.alloc (.cells (shaV (fin t) lf (t.length : Int)) 93))
  generalize w.alloc (.cells (shaV (fin t) lf (t.length : Int)) 93) = W at *
  clear r0 r1 r2 r3 r4 r5 r6 r7 r8 r9 r10
  have q10 : W.cell? ⟨g, 10, none⟩ = some (.int .u64 (t.length : Int)) := bg.sha.2.2.2.2.2.2.2.2.2.2
  have hinW := bg.inside
  go_upto_region 4 with (first
    | (go_at_call 72; refine (cP _).mono ?_; rintro e w1 ⟨rfl, b1⟩)
    | (go_at_call 55; refine (cT _ (t0.call b1) (be.call b1)).mono ?_; rintro e w2 ⟨rfl, ⟨lg, hlg, be2⟩, k2⟩))
  have L2 : Below w.heap.size w w2 := (chain L0 b1).trans (k2.below (Nat.le_refl _) (chain L0 b1).size)
  generalize fin (t ++ (padB t.length).data.toList) = F at *
  clear cP cT be bg t0 b1 k2 q10 hinW L0
  obtain ⟨q0, q1, q2, q3, q4, q5, q6, q7, q8, q9, q10⟩ := be2.sha
  have hin2 := be2.inside
  have hl32 := stI_len F
  obtain ⟨i0, hi, hzi0, hzi1, hzi2⟩ := info_parts info_u8
  go_wp2
  go_loopg [4, 18] 8 (fun gk v i wr => ∃ k : Nat, k ≤ 8 ∧ gk = 8 - k ∧ i = .int .i64 k ∧ wr.ownsRow w.heap.size 5 1 v (4 * k) (u8s ((stI F).take (4 * k))) ∧ Below w.heap.size w wr)
  case atStart => exact ⟨0, by omega, rfl, rfl, World.ownsRow_nil _ _ _ _, L2⟩
  case round =>
    obtain ⟨k, hk, hgk, rfl, hown, L⟩ := hrel
    have HG := hideIt hgk
    clear hgk L2
    have hgs := L.size
    by_cases hlt : k < 8
    · have hix := fun u => index_st F k hlt u
      have HS := hideIt (stI_step F k hlt)
      have cw := fun u => sword_any (F.at k) u
      generalize F.at k = x at *
      have b1 : (k : Int) < 8 := by omega
      have ex : (b8s (wbI x)).size = 4 := rfl
      go_wp2_with (first
        | (go_at_call 73; refine (cw _).mono ?_; rintro e w' ⟨rfl, rfl⟩)
        | (at_builtin; refine wp_append_new rfl _ _ 66 rfl w.heap.size 5 i0 (.int .u8 0) 1 Tryd.underlying66 hi hzi0 hzi1 hzi2 rfl _ _ _ rfl hown (b8s (wbI x)) rfl (by rw [u8s_b8s]; exact u8s_one _) (by rw [ex]; omega) (by omega) hgs ?_))
      intro v2 w3 hown2 hb2 hk2
      have L3 := L.trans (hb2 _ (Nat.le_refl _))
      rw [u8s_b8s, ← u8s_app, ← HS.out] at hown2
      clear hk2 hb2 hown hix cw
      go_wp2
      go_roundg (8 - (k + 1))
      case measure => have := HG.out; omega
      case rel => exact ⟨k + 1, by omega, rfl, by go_num, hown2, L3⟩
    · have e : k = 8 := by omega
      subst e
      rw [show (stI F).take (4 * 8) = stI F from rfl] at hown
      have hcv := conv_row hown (by omega)
      rw [← HD.out] at hcv
      clear HG hown
      go_wp2
      go_ret
      exact ⟨rfl, L⟩

theorem new_sha {w' : World} {g : Nat} (h : Box w' g 93 (shaV st0 ⟨#[]⟩ 0)) : ShaAt w' g [] := ⟨⟨#[]⟩, by rw [left_short [] (by simp)], by rw [fin_nil]; exact h⟩
theorem ShaIn.inside {T : TypeId} {X : List Value} {w : World} {g : Nat} {t : List UInt8} (h : ShaIn T X w g t) : g < w.heap.size := by obtain ⟨lf, -, h⟩ := h; exact h.inside
theorem ShaIn.call {T : TypeId} {X : List Value} {w w' : World} {g : Nat} {t : List UInt8} (h : ShaIn T X w g t) (hb : Below w.heap.size w w') : ShaIn T X w' g t := by obtain ⟨lf, hl, h⟩ := h; exact ⟨lf, hl, h.call hb⟩
theorem ShaIn.but {T : TypeId} {X : List Value} {w w' : World} {g b : Nat} {t : List UInt8} (h : ShaIn T X w g t) (hb : But b w w') (hne : g ≠ b) : ShaIn T X w' g t := by obtain ⟨lf, hl, h⟩ := h; exact ⟨lf, hl, hb.box h hne⟩
theorem take_any {T : TypeId} {X : List Value} (t : List UInt8) (s : ByteArray) (hs : s.size ≤ 9223372036854775807) (hb : t.length + s.size < 18446744073709551616) (g : Nat) (w : World) (hT : Tab w) (hg0 : g ≠ 2) (h : ShaIn T X w g t) :
    Calls Tryd.prog 55 #[.pointer (some ⟨g, 0, none⟩), .string s] w fun e w' => e = .returned (.tuple #[]) ∧ ShaIn T X w' g (t ++ s.data.toList) ∧ But g w w' := by
  obtain ⟨lf, hlf, hbx⟩ := h
  refine (take_walk T X t lf s hlf (t.length : Int) (by omega) (by omega) hs g w hT hg0 hbx).mono ?_
  rintro e w' ⟨rfl, ⟨lg, hl, hb2⟩, hk⟩
  refine ⟨rfl, ⟨lg, hl, ?_⟩, hk⟩
  have e1 : ((t ++ s.data.toList).length : Int) = ((t.length : Int) + (s.size : Int)) % 18446744073709551616 := by
    rw [List.length_append, show s.data.toList.length = s.size by simp]; omega
  rw [e1]
  exact hb2

set_option maxHeartbeats 2000000 in
theorem sum_any (s : ByteArray) (hs : s.size ≤ 9223372036854775807) (w : World) (hT : Tab w) : Calls Tryd.prog 36 #[.string s] w (Tells (.string (digB s.data.toList)) w.heap.size w) := by
  have cN := fun u => new_any u
  have hl : s.data.toList.length = s.size := by simp
  have n0 := hT.1
  have cT := fun g u hu (h0 : g ≠ 2) hb => take_any (T := 93) (X := []) [] s hs (by simp; omega) g u hu h0 hb
  have cD := fun g u hu hb => digest_any (T := 93) (X := []) s.data.toList (by omega) g u hu hb
  simp only [List.nil_append] at cT
  go_enter Tryd.func36, Tryd.ntmps36
  go_wp2_with (first
    | (go_at_call 54; refine (cN _).mono ?_; rintro e w1 ⟨g, hg, rfl, hbx, b1⟩)
    | (go_at_call 55; refine (cT g _ (hT.call b1) (by omega) (new_sha hbx)).mono ?_; rintro e w2 ⟨rfl, h2, k2⟩)
    | (go_at_call 56; refine (cD g _ (k2.tab (hT.call b1) (by omega)) h2).mono ?_; rintro e w3 ⟨rfl, b3⟩))
  go_ret
  exact ⟨rfl, chain (b1.trans (k2.below hg b1.size)) b3⟩

end Go.Proofs.YtkmnfogcocppjaaDoor
