/-
  octet.Out, walked: Num, Text, Done; of nobody's.
-/
import Derived.Test.YtakhdhbalmcohaaDoorU8Out
import Derived.Test.YtakhdhbalmcohaaDoorU1Calls
namespace Go.Proofs.YtakhdhbalmcohaaDoor
set_option linter.unusedVariables false
set_option linter.unusedSimpArgs false
set_option maxRecDepth 10000
open Go.RowKit Go.Shelf

set_option maxHeartbeats 1000000 in
theorem out_wide_none (hi lo : Int) (h1 : Word hi) (h0 : Word lo) (w : World) : Calls Tryd.prog 35 #[.pointer none, .agg #[.int .u64 hi, .int .u64 lo]] w (Tells (.tuple #[]) w.heap.size w) := by
  have B0 := Box.made w 35 #[.int .u64 hi, .int .u64 lo]
  have L0 : Below w.heap.size w (w.alloc (.cells #[.int .u64 hi, .int .u64 lo] 35)) := (Below.refl _ w).alloc (Nat.le_refl _) _
  have cY := fun u => bytes_any hi lo h1 h0 u
  have cT := fun u => trim_any (textOf hi lo) (by rw [textOf_size]; omega) u
  have eT : ofL (trimN (textOf hi lo).data.toList) = ofL (numL hi lo) := rfl
  rw [eT] at cT
  have eY : strOfNums (bytesOf hi lo) = textOf hi lo := rfl
  rw [eY] at cY
  clear eT eY
  have hl := numL_len hi lo
  have hz : (ofL (numL hi lo)).size = (numL hi lo).length := ofL_size _
  have cB := fun u => out_byte_none (UInt8.ofNat (numL hi lo).length) ((numL hi lo).length : Int) (by rw [ofNat_b _ (by omega)]) u
  have cW := fun u => out_write_none (ofL (numL hi lo)) u
  have w1 : IntKind.u8.wrap ((numL hi lo).length : Int) = ((numL hi lo).length : Int) := by rw [IntKind.wrap_u8]; omega
  generalize textOf hi lo = Y at *
  generalize ofL (numL hi lo) = D at *
  generalize (numL hi lo).length = n at *
  go_enter Tryd.func35, Tryd.ntmps35
  go_upto_region 1 with fail
  change Code.wp _ _ _ _ (w.alloc (.cells #[.int .u64 hi, .int .u64 lo] 35))
  generalize w.alloc (.cells #[.int .u64 hi, .int .u64 lo] 35) = W at *
  obtain ⟨c0, c1, f0, f1, hin⟩ := B0.two
  go_wp2_with (first
    | (go_at_call 46; refine (cY _).mono ?_; rintro e w1 ⟨rfl, b1⟩)
    | (go_at_call 45; refine (cT _).mono ?_; rintro e w2 ⟨rfl, rfl⟩)
    | (go_at_call 34; refine (cB _).mono ?_; rintro e w3 ⟨rfl, b3⟩)
    | (go_at_call 33; refine (cW _).mono ?_; rintro e w4 ⟨rfl, rfl⟩))
  go_end0
  exact ⟨rfl, chain (chain L0 b1) b3⟩
theorem word0 : Word 0 := ⟨by decide, by decide⟩
theorem out_num (g : Nat) (o : Option ByteArray) (lo : Int) (h0 : Word lo) (w : World) (h : OutS w g o) :
    Calls Tryd.prog 32 #[.pointer (some ⟨g, 0, none⟩), .int .u64 lo] w fun e w' => e = .returned (.tuple #[]) ∧ OutS w' g (putB o (ofL (wideL 0 lo))) ∧ Off (One g) w w' := by
  have cO := fun u => of_any lo u
  have cW := fun u (hu : OutS u g o) => out_wide g o 0 lo word0 h0 u hu
  generalize putB o (ofL (wideL 0 lo)) = R at *
  go_enter Tryd.func32, Tryd.ntmps32
  go_wp2_with (first
    | (go_at_call 29; refine (cO _).mono ?_; rintro e w1 ⟨rfl, b1⟩)
    | (go_at_call 35; refine (cW _ (h.call b1)).mono ?_; rintro e w2 ⟨rfl, s2, k2⟩))
  go_end0
  exact ⟨rfl, s2, (Off.of b1).trans k2⟩
theorem out_num_none (lo : Int) (h0 : Word lo) (w : World) : Calls Tryd.prog 32 #[.pointer none, .int .u64 lo] w (Tells (.tuple #[]) w.heap.size w) := by
  have cO := fun u => of_any lo u
  have cW := fun u => out_wide_none 0 lo word0 h0 u
  go_enter Tryd.func32, Tryd.ntmps32
  go_wp2_with (first
    | (go_at_call 29; refine (cO _).mono ?_; rintro e w1 ⟨rfl, b1⟩)
    | (go_at_call 35; refine (cW _).mono ?_; rintro e w2 ⟨rfl, b2⟩))
  go_end0
  exact ⟨rfl, chain b1 b2⟩
/-- A text's bytes behind how many they are. -/
def textL (s : ByteArray) : List UInt8 := wideL 0 (s.size : Int) ++ s.data.toList
theorem out_text (g : Nat) (o : Option ByteArray) (s : ByteArray) (hs : s.size ≤ 4611686018427387903) (w : World) (h : OutS w g o) :
    Calls Tryd.prog 10 #[.pointer (some ⟨g, 0, none⟩), .string s] w fun e w' => e = .returned (.tuple #[]) ∧ OutS w' g (putB o (ofL (textL s))) ∧ Off (One g) w w' := by
  have cN := out_num g o (s.size : Int) ⟨by omega, by omega⟩ w h
  have cW := fun u (hu : OutS u g (putB o (ofL (wideL 0 (s.size : Int))))) => out_write g _ s hs u hu
  have eA : ofL (wideL 0 (s.size : Int)) ++ s = ofL (textL s) := by unfold textL; rw [ofL_app, ofL_data]
  rw [putB_two, eA] at cW
  clear eA
  have w1 : IntKind.u64.wrap (s.size : Int) = (s.size : Int) := by rw [IntKind.wrap_u64]; omega
  generalize putB o (ofL (wideL 0 (s.size : Int))) = o1 at *
  generalize putB o (ofL (textL s)) = R at *
  go_enter Tryd.func10, Tryd.ntmps10
  go_wp2_with (first
    | (go_at_call 32; refine cN.mono ?_; rintro e w1 ⟨rfl, s1, k1⟩)
    | (go_at_call 33; refine (cW _ s1).mono ?_; rintro e w2 ⟨rfl, s2, k2⟩))
  go_end0
  exact ⟨rfl, s2, k1.trans k2⟩
theorem out_text_none (s : ByteArray) (hs : s.size ≤ 4611686018427387903) (w : World) : Calls Tryd.prog 10 #[.pointer none, .string s] w (Tells (.tuple #[]) w.heap.size w) := by
  have cN := out_num_none (s.size : Int) ⟨by omega, by omega⟩ w
  have cW := fun u => out_write_none s u
  have w1 : IntKind.u64.wrap (s.size : Int) = (s.size : Int) := by rw [IntKind.wrap_u64]; omega
  go_enter Tryd.func10, Tryd.ntmps10
  go_wp2_with (first
    | (go_at_call 32; refine cN.mono ?_; rintro e w1 ⟨rfl, b1⟩)
    | (go_at_call 33; refine (cW _).mono ?_; rintro e w2 ⟨rfl, rfl⟩))
  go_end0
  exact ⟨rfl, b1⟩
theorem out_done_none (w : World) : Calls Tryd.prog 14 #[.pointer none] w (Still (.tuple #[.string ⟨#[]⟩, .int .i64 1]) w) := by
  go_enter Tryd.func14, Tryd.ntmps14
  go_wp2
  go_ret2
  exact ⟨rfl, rfl⟩
/-- What Done tells. -/
def doneV (o : Option ByteArray) : Value := match o with | none => .tuple #[.string ⟨#[]⟩, .int .i64 3] | some s => .tuple #[.string s, .int .i64 0]
set_option maxHeartbeats 1000000 in
theorem out_done (g : Nat) (o : Option ByteArray) (w : World) (h : OutS w g o) : Calls Tryd.prog 14 #[.pointer (some ⟨g, 0, none⟩)] w (Still (doneV o) w) := by
  cases o with
  | none =>
    have hb : Box w g 27 #[.pointer none, .int .i64 0, .bool true] := h
    obtain ⟨c0, c1, c2, f0, f1, f2, hin⟩ := hb.three
    go_enter Tryd.func14, Tryd.ntmps14
    go_wp2
    go_ret2
    exact ⟨rfl, rfl⟩
  | some t =>
    obtain ⟨p, l, hb, hp, hc, ht⟩ := h
    obtain ⟨c0, c1, c2, f0, f1, f2, hin⟩ := hb.three
    have hcat : catR l ++ (⟨#[]⟩ : ByteArray) = t := by rw [hc]; exact oext (by simp [ByteArray.data_append])
    clear hc hb
    go_enter Tryd.func14, Tryd.ntmps14
    go_wp2
    go_loopg [4, 5] l.length (fun gk v pv wr => ∃ (m : List ByteArray) (q : Option Addr) (u : ByteArray), gk = m.length ∧ v = .string u ∧ pv = .pointer q ∧ Pieces wr q m ∧ catR m ++ u = t ∧ wr = w)
    case atStart => exact ⟨l, p, ⟨#[]⟩, rfl, rfl, rfl, hp, hcat, rfl⟩
    case round =>
      clear hp hcat c0 c1 c2 f0 f1 f2 hin
      obtain ⟨m, q, u, hgk, rfl, rfl, hp, hcat, rfl⟩ := hrel
      have HG := hideIt hgk
      clear hgk
      cases m with
      | nil =>
        have hq : q = none := hp
        subst hq
        have hu : u = t := by rw [← hcat]; exact (nil_app u).symm
        have HU := hideIt hu
        clear hu hcat
        go_wp2
        go_ret2
        exact ⟨by rw [HU.out]; rfl, rfl⟩
      | cons x r =>
        obtain ⟨b, q2, rfl, hbx, hr⟩ := hp
        obtain ⟨d0, d1, e0, e1, hin2⟩ := hbx.two
        have hzz : (catR r ++ x ++ u).size = t.size := by rw [← hcat]; rfl
        rw [ByteArray.size_append, ByteArray.size_append] at hzz
        obtain ⟨y, hy⟩ : ∃ y, x ++ u = y := ⟨_, rfl⟩
        have hcy : ∀ v : World, (Op.stringOp .add x u).run Tryd.prog v = .ok (.string y) v := fun v => by rw [← hy]; exact run_string_add_sum v _ _ (by omega)
        have hcat2 : catR r ++ y = t := by rw [← hy, ← ByteArray.append_assoc]; exact hcat
        clear hy hzz hbx hcat
        go_wp2
        go_roundg r.length
        case measure => have := HG.out; simp at this; omega
        case rel => exact ⟨r, q2, y, rfl, rfl, rfl, hr, hcat2, rfl⟩
end Go.Proofs.YtakhdhbalmcohaaDoor
