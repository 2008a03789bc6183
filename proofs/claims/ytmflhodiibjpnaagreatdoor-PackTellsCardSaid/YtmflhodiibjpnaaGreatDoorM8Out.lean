/- Several of my texts, laid as one. -/
import Derived.Test.YtmflhodiibjpnaaGreatDoorRows
import Derived.Test.YtmflhodiibjpnaaGreatDoorW8Off
import Derived.WalkKit
import Derived.Shelf.Strings.Trim
import Derived.KernelRfl
import Derived.Test.YtmflhodiibjpnaaGreatDoorU1Bytes
import Derived.Test.YtmflhodiibjpnaaGreatDoorU5Clone
import Derived.LoopTactic
import Derived.Deep.LoopGhost
import Derived.Laws.Concat
import Derived.Test.YtmflhodiibjpnaaGreatDoorM1Num
/-
  strings.TrimLeft at one nought, by the library's own contract of trimLeftByte.
-/
namespace Go.Proofs.YtmflhodiibjpnaaGreatDoor
set_option linter.unusedVariables false
set_option linter.unusedSimpArgs false
set_option maxRecDepth 10000
open Go.RowKit Go.Shelf

def trimRen : Go.Shelf.Ren := ⟨fun | 231 => 164 | n => n,
  fun | 3 => 3 | 4 => 4 | 5 => 5 | 9 => 9 | n => n, fun n => n⟩
theorem laysTrim : Lays.n231 Tryz.prog trimRen := {
  mixed := by kernel_rfl
  f231 := by kernel_rfl
  t3 := by kernel_rfl
  a3 := fun _ => by kernel_rfl
  z3 := fun _ => by kernel_rfl
  v3 := fun _ => by kernel_rfl
  t4 := by kernel_rfl
  a4 := fun _ => by kernel_rfl
  z4 := fun _ => by kernel_rfl
  v4 := fun _ => by kernel_rfl
  t5 := by kernel_rfl
  a5 := fun _ => by kernel_rfl
  z5 := fun _ => by kernel_rfl
  v5 := fun _ => by kernel_rfl
  t9 := by kernel_rfl
  a9 := fun _ => by kernel_rfl
  z9 := fun _ => by kernel_rfl
  v9 := fun _ => by kernel_rfl }
set_option maxHeartbeats 1000000 in
theorem trim_any (s : ByteArray) (hs : 0 < s.size) (w : World) : Calls Tryz.prog 136 #[.string s, .string ⟨#[0]⟩] w (Still (.string (ofL (trimN s.data.toList))) w) := by
  have c : ∀ u : World, Calls Tryz.prog 164 #[.string s, .int .u8 0] u fun e w' => e = .returned (.string (ofL (trimN s.data.toList))) ∧ w' = u := fun u => Any.strings_trimLeftByte laysTrim s 0 u
  have h0 : s.toList.isEmpty = false := by
    rw [Lib.toList_data]
    cases h : s.data.toList with
    | nil => have := osize s; rw [h, List.length_nil] at this; omega
    | cons _ _ => rfl
  have h1 : (s.toList == []) = false := by
    cases h : s.toList with
    | nil => rw [h] at h0; cases h0
    | cons _ _ => rfl
  generalize ofL (trimN s.data.toList) = r at *
  go_enter Tryz.func136, Tryz.ntmps136
  go_wp2_with (first | (go_at_call 164; refine (c _).mono ?_; rintro e w' ⟨rfl, rfl⟩))
  go_ret
  exact ⟨rfl, rfl⟩
end Go.Proofs.YtmflhodiibjpnaaGreatDoor
/-
  octet.Out, walked: write, Byte, Num, Wide, Flag, Text, Done; of nobody's.
-/
namespace Go.Proofs.YtmflhodiibjpnaaGreatDoor
set_option linter.unusedVariables false
set_option linter.unusedSimpArgs false
set_option maxRecDepth 10000
open Go.RowKit Go.Shelf

/-- Pieces, the last one first; joined. -/
def Pieces (w : World) : Option Addr → List ByteArray → Prop
  | p, [] => p = none
  | p, t :: r => ∃ b q, p = some ⟨b, 0, none⟩ ∧ Box w b 112 #[.pointer q, .string t] ∧ Pieces w q r
def catR : List ByteArray → ByteArray
  | [] => ⟨#[]⟩
  | t :: r => catR r ++ t
theorem nil_app (s : ByteArray) : (⟨#[]⟩ : ByteArray) ++ s = s := oext (by simp [ByteArray.data_append])
theorem Pieces.keep {w w' : World} : ∀ {l : List ByteArray} {p : Option Addr}, Pieces w p l → (∀ k, k < w.heap.size → TyAt w k 112 → w'.heap[k]? = w.heap[k]?) → Pieces w' p l
  | [], _, h, _ => h
  | t :: r, _, ⟨b, q, hp, hb, hr⟩, e => ⟨b, q, hp, (e b hb.inside ⟨_, _, hb⟩).trans hb, Pieces.keep hr e⟩
theorem Pieces.call {w w' : World} {l : List ByteArray} {p : Option Addr} (h : Pieces w p l) (hb : Below w.heap.size w w') : Pieces w' p l := h.keep fun k hk _ => hb.block k hk
theorem Pieces.off {w w' : World} {l : List ByteArray} {p : Option Addr} {b : Nat} {t : TypeId} {cs : Array Value} (h : Pieces w p l) (k : Off (One b) w w') (hb : Box w b t cs) (ht : 112 ≠ t) : Pieces w' p l :=
  h.keep fun i hi hx => k.block i hi (fun e => hx.ne hb ht e)
theorem Pieces.set_ {w : World} {l : List ByteArray} {p : Option Addr} {b i : Nat} {t : TypeId} {cs : Array Value} (h : Pieces w p l) (hb : Box w b t cs) (ht : 112 ≠ t) (v : Value) : Pieces (w.setCell ⟨b, i, none⟩ v) p l :=
  h.off (b := b) ((Off.refl (One b) w).set_ (p := ⟨b, i, none⟩) (Or.inl rfl) v) hb ht
/-- What is written, where it lies; none: it is spoilt. -/
def OutS (w : World) (g : Nat) : Option ByteArray → Prop
  | none => Box w g 45 #[.pointer none, .int .i64 0, .bool true]
  | some s => ∃ p l, Box w g 45 #[.pointer p, .int .i64 s.size, .bool false] ∧ Pieces w p l ∧ catR l = s ∧ s.size ≤ 1048576
theorem OutS.inside {w : World} {g : Nat} {o : Option ByteArray} (h : OutS w g o) : g < w.heap.size := by
  cases o with
  | none => exact Box.inside (show Box w g 45 _ from h)
  | some s => obtain ⟨p, l, h, -⟩ := h; exact h.inside
theorem OutS.call {w w' : World} {g : Nat} {o : Option ByteArray} (h : OutS w g o) (hb : Below w.heap.size w w') : OutS w' g o := by
  cases o with
  | none => exact Box.call (show Box w g 45 _ from h) hb
  | some s => obtain ⟨p, l, h1, h2, h3, h4⟩ := h; exact ⟨p, l, h1.call hb, h2.call hb, h3, h4⟩
theorem out_new {w : World} {g : Nat} (h : Box w g 45 #[.pointer none, .int .i64 0, .bool false]) : OutS w g (some ⟨#[]⟩) := ⟨none, [], h, rfl, rfl, by show 0 ≤ _; omega⟩

theorem isEmpty_no (s : ByteArray) (hs : 0 < s.size) : s.toList.isEmpty = false ∧ (s.toList == []) = false := by
  have h0 : s.toList.isEmpty = false := by
    rw [Lib.toList_data]
    cases h : s.data.toList with
    | nil => have := osize s; rw [h, List.length_nil] at this; omega
    | cons _ _ => rfl
  refine ⟨h0, ?_⟩
  cases h : s.toList with
  | nil => rw [h] at h0; cases h0
  | cons _ _ => rfl
theorem size_zero (s : ByteArray) (h : s.size = 0) : s = ⟨#[]⟩ := oext (by
  have := osize s
  rw [h] at this
  rw [List.length_eq_zero_iff.1 this])

theorem out_pushed {w wr : World} {g : Nat} {q : Option Addr} {m : List ByteArray} {u whole : ByteArray} (hb : Box wr g 45 #[.pointer q, .int .i64 whole.size, .bool false]) (hp : Pieces wr q m) (hc : catR m ++ u = whole) (hz : whole.size ≤ 1048576) (hk : Off (One g) w wr) :
    OutS ((wr.setCell ⟨g, 0, none⟩ (.pointer (some ⟨wr.heap.size, 0, none⟩))).alloc (.cells #[.pointer q, .string u] 112)) g (some whole) ∧
      Off (One g) w ((wr.setCell ⟨g, 0, none⟩ (.pointer (some ⟨wr.heap.size, 0, none⟩))).alloc (.cells #[.pointer q, .string u] 112)) := by
  have b1 := hb.wrote 0 (.pointer (some ⟨wr.heap.size, 0, none⟩))
  have p1 := hp.set_ (i := 0) hb (by decide) (.pointer (some ⟨wr.heap.size, 0, none⟩))
  have k1 := hk.set_ (p := ⟨g, 0, none⟩) (Or.inl rfl) (.pointer (some ⟨wr.heap.size, 0, none⟩))
  have hz2 : (wr.setCell ⟨g, 0, none⟩ (.pointer (some ⟨wr.heap.size, 0, none⟩))).heap.size = wr.heap.size := by simp [World.setCell]
  generalize wr.setCell ⟨g, 0, none⟩ (.pointer (some ⟨wr.heap.size, 0, none⟩)) = Z at *
  have L : Below Z.heap.size Z (Z.alloc (.cells #[.pointer q, .string u] 112)) := (Below.refl _ Z).alloc (Nat.le_refl _) _
  have n1 := Box.made Z 112 #[.pointer q, .string u]
  rw [hz2] at n1
  exact ⟨⟨some ⟨wr.heap.size, 0, none⟩, u :: m, b1.call L, ⟨wr.heap.size, q, rfl, n1, p1.call L⟩, hc, hz⟩, k1.call L⟩
theorem out_write_none (s : ByteArray) (w : World) : Calls Tryz.prog 135 #[.pointer none, .string s] w (Still (.tuple #[]) w) := by
  go_enter Tryz.func135, Tryz.ntmps135
  go_wp2
  go_end0
  exact ⟨rfl, rfl⟩
set_option maxHeartbeats 2000000 in
theorem out_write (g : Nat) (o : Option ByteArray) (s : ByteArray) (hs : s.size ≤ 4611686018427387903) (w : World) (h : OutS w g o) :
    Calls Tryz.prog 135 #[.pointer (some ⟨g, 0, none⟩), .string s] w fun e w' => e = .returned (.tuple #[]) ∧ OutS w' g (putB o s) ∧ Off (One g) w w' := by
  cases o with
  | none =>
    have hb : Box w g 45 #[.pointer none, .int .i64 0, .bool true] := h
    obtain ⟨c0, c1, c2, f0, f1, f2, hin⟩ := hb.three
    go_enter Tryz.func135, Tryz.ntmps135
    go_wp2
    refine bodyPost_ret (results_none rfl _ _ _) rfl ?_
    exact ⟨rfl, h, Off.refl _ _⟩
  | some t =>
    have h0 := h
    obtain ⟨p, l, hb, hp, hc, ht⟩ := h
    obtain ⟨c0, c1, c2, f0, f1, f2, hin⟩ := hb.three
    by_cases hz : s.size = 0
    · have e := size_zero s hz
      subst e
      rw [putB_nil t ht]
      go_enter Tryz.func135, Tryz.ntmps135
      go_wp2
      refine bodyPost_ret (results_none rfl _ _ _) rfl ?_
      exact ⟨rfl, h0, Off.refl _ _⟩
    · obtain ⟨i0, i1⟩ := isEmpty_no s (by omega)
      have w1 : IntKind.i64.wrap (1048576 - (t.size : Int)) = 1048576 - (t.size : Int) := IntWalk.i64_in _ (by omega)
      by_cases hbig : 1048576 < t.size + s.size
      · rw [putB_no t s hbig]
        have hbi : 1048576 - (t.size : Int) < (s.size : Int) := by omega
        have b1 := ((hb.wrote 0 (.pointer none)).wrote 1 (.int .i64 0)).wrote 2 (.bool true)
        have k1 := (((Off.refl (One g) w).set_ (p := ⟨g, 0, none⟩) (Or.inl rfl) (.pointer none)).set_ (p := ⟨g, 1, none⟩) (Or.inl rfl) (.int .i64 0)).set_ (p := ⟨g, 2, none⟩) (Or.inl rfl) (.bool true)
        go_enter Tryz.func135, Tryz.ntmps135
        go_wp2
        refine bodyPost_ret (results_none rfl _ _ _) rfl ?_
        exact ⟨rfl, b1, k1⟩
      · rw [putB_yes t s (by omega)]
        have hbi : ¬ (1048576 - (t.size : Int) < (s.size : Int)) := by omega
        have w2 : IntKind.i64.wrap ((t.size : Int) + (s.size : Int)) = (t.size : Int) + (s.size : Int) := IntWalk.i64_in _ (by omega)
        have b1 := hb.wrote 1 (.int .i64 ((t.size : Int) + (s.size : Int)))
        have k1 := (Off.refl (One g) w).set_ (p := ⟨g, 1, none⟩) (Or.inl rfl) (.int .i64 ((t.size : Int) + (s.size : Int)))
        have p1 := hp.set_ (i := 1) hb (by decide) (.int .i64 ((t.size : Int) + (s.size : Int)))
        have cC := fun u => clone_any s (by omega) u
        have hsum : catR l ++ s = t ++ s := by rw [hc]
        have hsz : (t ++ s).size ≤ 1048576 := by rw [ByteArray.size_append]; omega
        have hN : (t.size : Int) + (s.size : Int) = ((t ++ s).size : Int) := by rw [ByteArray.size_append]; omega
        obtain ⟨whole, hwhole⟩ : ∃ whole, t ++ s = whole := ⟨_, rfl⟩
        rw [hwhole] at hsum hsz hN ⊢
        have HN := hideIt hN
        clear hN hwhole
        go_enter Tryz.func135, Tryz.ntmps135
        go_upto_region 5 with (first | (go_at_call 163; refine (cC _).mono ?_; rintro e w3 ⟨rfl, b3⟩) | fail)
        have B3 : Box w3 g 45 #[.pointer p, .int .i64 ((t.size : Int) + (s.size : Int)), .bool false] := Box.call b1 b3
        have P3 := p1.call b3
        have K3 := k1.call b3
        rw [HN.out] at B3
        clear c0 c1 c2 f0 f1 f2 hin h0 hb hp hc ht w1 w2 b1 k1 p1 b3 cC hbi hbig i0 i1
        go_loopg [1] l.length (fun gk v wr => ∃ (m : List ByteArray) (q : Option Addr) (u : ByteArray), gk = m.length ∧ v = .string u ∧ Box wr g 45 #[.pointer q, .int .i64 whole.size, .bool false] ∧ Pieces wr q m ∧ catR m ++ u = whole ∧ Off (One g) w wr)
        case atStart => exact ⟨l, p, s, rfl, rfl, B3, P3, hsum, K3⟩
        case round =>
          clear B3 P3 K3 hsum
          obtain ⟨m, q, u, hgk, rfl, hb, hp, hcat, hk⟩ := hrel
          have HG := hideIt hgk
          clear hgk
          obtain ⟨c0, c1, c2, f0, f1, f2, hin⟩ := hb.three
          cases m with
          | nil =>
            have hq : q = none := hp
            subst hq
            obtain ⟨o1, o2⟩ := out_pushed hb hp hcat hsz hk
            clear hp
            go_wp2
            go_end0
            exact ⟨rfl, o1, o2⟩
          | cons x r =>
            obtain ⟨b, q2, rfl, hbx, hr⟩ := hp
            obtain ⟨d0, d1, e0, e1, hin2⟩ := hbx.two
            have hzz : (catR r ++ x ++ u).size = whole.size := by rw [← hcat]; rfl
            rw [ByteArray.size_append, ByteArray.size_append] at hzz
            have w5 : IntKind.i64.wrap (2 * (u.size : Int)) = 2 * (u.size : Int) := IntWalk.i64_in _ (by omega)
            by_cases hlt : x.size < 2 * u.size
            · have hlti : (x.size : Int) < 2 * (u.size : Int) := by omega
              obtain ⟨y, hy⟩ : ∃ y, x ++ u = y := ⟨_, rfl⟩
              have hcy : ∀ v : World, (Op.stringOp .add x u).run Tryz.prog v = .ok (.string y) v := fun v => by rw [← hy]; exact run_string_add_sum v _ _ (by omega)
              have hcat2 : catR r ++ y = whole := by rw [← hy, ← ByteArray.append_assoc]; exact hcat
              have r2 := hr.set_ (i := 0) hb (by decide) (.pointer q2)
              have bb := hb.wrote 0 (.pointer q2)
              have kk := hk.set_ (p := ⟨g, 0, none⟩) (Or.inl rfl) (.pointer q2)
              clear hy hzz hbx hr hcat
              go_wp2
              go_roundg r.length
              case measure => have := HG.out; simp at this; omega
              case rel => exact ⟨r, q2, y, rfl, rfl, bb, r2, hcat2, kk⟩
            · have hlti : ¬ ((x.size : Int) < 2 * (u.size : Int)) := by omega
              obtain ⟨o1, o2⟩ := out_pushed hb (m := x :: r) ⟨b, q2, rfl, hbx, hr⟩ hcat hsz hk
              clear hbx hr hcat
              go_wp2
              go_end0
              exact ⟨rfl, o1, o2⟩

set_option maxHeartbeats 1000000 in
theorem out_byte (g : Nat) (o : Option ByteArray) (c : UInt8) (x : Int) (hx : x = (c.toNat : Int)) (w : World) (h : OutS w g o) :
    Calls Tryz.prog 96 #[.pointer (some ⟨g, 0, none⟩), .int .u8 x] w fun e w' => e = .returned (.tuple #[]) ∧ OutS w' g (putB o (ofL [c])) ∧ Off (One g) w w' := by
  have L : Below w.heap.size w (w.alloc (.cells #[.int .u8 x] 5)) := (Below.refl _ w).alloc (Nat.le_refl _) _
  have cW := out_write g o (ofL [c]) (by rw [ofL_size]; show 1 ≤ _; omega) _ (h.call L)
  have hcv := conv_one c w 5 x hx
  clear hx
  generalize ofL [c] = s at *
  go_enter Tryz.func96, Tryz.ntmps96
  go_wp2_with (first | (go_at_call 135; refine cW.mono ?_; rintro e w1 ⟨rfl, s1, k1⟩))
  go_end0
  exact ⟨rfl, s1, (Off.of L).trans k1⟩
theorem out_byte_none (c : UInt8) (x : Int) (hx : x = (c.toNat : Int)) (w : World) : Calls Tryz.prog 96 #[.pointer none, .int .u8 x] w (Tells (.tuple #[]) w.heap.size w) := by
  have L : Below w.heap.size w (w.alloc (.cells #[.int .u8 x] 5)) := (Below.refl _ w).alloc (Nat.le_refl _) _
  have cW := fun s u => out_write_none s u
  have hcv := conv_one c w 5 x hx
  clear hx
  go_enter Tryz.func96, Tryz.ntmps96
  go_wp2_with (first | (go_at_call 135; refine (cW _ _).mono ?_; rintro e w1 ⟨rfl, rfl⟩))
  go_end0
  exact ⟨rfl, L⟩
theorem out_flag (g : Nat) (o : Option ByteArray) (b : Bool) (w : World) (h : OutS w g o) :
    Calls Tryz.prog 98 #[.pointer (some ⟨g, 0, none⟩), .bool b] w fun e w' => e = .returned (.tuple #[]) ∧ OutS w' g (putB o (ofL [b01 b])) ∧ Off (One g) w w' := by
  cases b with
  | true =>
    have c : Calls Tryz.prog 96 #[.pointer (some ⟨g, 0, none⟩), .int .u8 1] w _ := out_byte g o 1 1 rfl w h
    go_enter Tryz.func98, Tryz.ntmps98
    go_wp2_with (first | (go_at_call 96; refine c.mono ?_; rintro e w1 ⟨rfl, s1, k1⟩))
    refine bodyPost_ret (results_none rfl _ _ _) rfl ?_
    exact ⟨rfl, s1, k1⟩
  | false =>
    have c : Calls Tryz.prog 96 #[.pointer (some ⟨g, 0, none⟩), .int .u8 0] w _ := out_byte g o 0 0 rfl w h
    go_enter Tryz.func98, Tryz.ntmps98
    go_wp2_with (first | (go_at_call 96; refine c.mono ?_; rintro e w1 ⟨rfl, s1, k1⟩))
    go_end0
    exact ⟨rfl, s1, k1⟩
theorem out_flag_none (b : Bool) (w : World) : Calls Tryz.prog 98 #[.pointer none, .bool b] w (Tells (.tuple #[]) w.heap.size w) := by
  cases b with
  | true =>
    have c : Calls Tryz.prog 96 #[.pointer none, .int .u8 1] w _ := out_byte_none 1 1 rfl w
    go_enter Tryz.func98, Tryz.ntmps98
    go_wp2_with (first | (go_at_call 96; refine c.mono ?_; rintro e w1 ⟨rfl, k1⟩))
    refine bodyPost_ret (results_none rfl _ _ _) rfl ?_
    exact ⟨rfl, k1⟩
  | false =>
    have c : Calls Tryz.prog 96 #[.pointer none, .int .u8 0] w _ := out_byte_none 0 0 rfl w
    go_enter Tryz.func98, Tryz.ntmps98
    go_wp2_with (first | (go_at_call 96; refine c.mono ?_; rintro e w1 ⟨rfl, k1⟩))
    go_end0
    exact ⟨rfl, k1⟩
set_option maxHeartbeats 1000000 in
theorem out_wide (g : Nat) (o : Option ByteArray) (hi lo : Int) (h1 : Word hi) (h0 : Word lo) (w : World) (h : OutS w g o) :
    Calls Tryz.prog 88 #[.pointer (some ⟨g, 0, none⟩), .agg #[.int .u64 hi, .int .u64 lo]] w fun e w' => e = .returned (.tuple #[]) ∧ OutS w' g (putB o (ofL (wideL hi lo))) ∧ Off (One g) w w' := by
  have B0 := Box.made w 24 #[.int .u64 hi, .int .u64 lo]
  have L0 : Below w.heap.size w (w.alloc (.cells #[.int .u64 hi, .int .u64 lo] 24)) := (Below.refl _ w).alloc (Nat.le_refl _) _
  have H0 := h.call L0
  have cY := fun u => bytes_any hi lo h1 h0 u
  have cT := fun u => trim_any (textOf hi lo) (by rw [textOf_size]; omega) u
  have eT : ofL (trimN (textOf hi lo).data.toList) = ofL (numL hi lo) := rfl
  rw [eT] at cT
  have eY : strOfNums (bytesOf hi lo) = textOf hi lo := rfl
  rw [eY] at cY
  clear eT eY
  have hl := numL_len hi lo
  have hz : (ofL (numL hi lo)).size = (numL hi lo).length := ofL_size _
  have eA : ofL [UInt8.ofNat (numL hi lo).length] ++ ofL (numL hi lo) = ofL (wideL hi lo) := (ofL_app _ _).symm
  have cB := fun u (hu : OutS u g o) => out_byte g o (UInt8.ofNat (numL hi lo).length) ((numL hi lo).length : Int) (by rw [ofNat_b _ (by omega)]) u hu
  have cW := fun u (hu : OutS u g (putB o (ofL [UInt8.ofNat (numL hi lo).length]))) => out_write g _ (ofL (numL hi lo)) (by rw [hz]; omega) u hu
  rw [putB_two, eA] at cW
  clear eA
  have w1 : IntKind.u8.wrap ((numL hi lo).length : Int) = ((numL hi lo).length : Int) := by rw [IntKind.wrap_u8]; omega
  generalize textOf hi lo = Y at *
  generalize putB o (ofL [UInt8.ofNat (numL hi lo).length]) = o1 at *
  obtain ⟨R, hR⟩ : ∃ R, ofL (wideL hi lo) = R := ⟨_, rfl⟩
  rw [hR] at cW ⊢
  clear hR
  generalize ofL (numL hi lo) = D at *
  generalize (numL hi lo).length = n at *
  go_enter Tryz.func88, Tryz.ntmps88
  go_upto_region 1 with fail
  change Code.wp _ _ _ _ (w.alloc (.cells #[.int .u64 hi, .int .u64 lo] 24))
  generalize w.alloc (.cells #[.int .u64 hi, .int .u64 lo] 24) = W at *
  obtain ⟨c0, c1, f0, f1, hin⟩ := B0.two
  go_wp2_with (first
    | (go_at_call 137; refine (cY _).mono ?_; rintro e w1 ⟨rfl, b1⟩)
    | (go_at_call 136; refine (cT _).mono ?_; rintro e w2 ⟨rfl, rfl⟩)
    | (go_at_call 96; refine (cB _ (H0.call b1)).mono ?_; rintro e w3 ⟨rfl, s3, k3⟩)
    | (go_at_call 135; refine (cW _ s3).mono ?_; rintro e w4 ⟨rfl, s4, k4⟩))
  go_end0
  exact ⟨rfl, s4, ((Off.of (chain L0 b1)).trans k3).trans k4⟩
end Go.Proofs.YtmflhodiibjpnaaGreatDoor
/-
  octet.Out, walked: Num, Text, Done; of nobody's.
-/
namespace Go.Proofs.YtmflhodiibjpnaaGreatDoor
set_option linter.unusedVariables false
set_option linter.unusedSimpArgs false
set_option maxRecDepth 10000
open Go.RowKit Go.Shelf

set_option maxHeartbeats 1000000 in
theorem out_wide_none (hi lo : Int) (h1 : Word hi) (h0 : Word lo) (w : World) : Calls Tryz.prog 88 #[.pointer none, .agg #[.int .u64 hi, .int .u64 lo]] w (Tells (.tuple #[]) w.heap.size w) := by
  have B0 := Box.made w 24 #[.int .u64 hi, .int .u64 lo]
  have L0 : Below w.heap.size w (w.alloc (.cells #[.int .u64 hi, .int .u64 lo] 24)) := (Below.refl _ w).alloc (Nat.le_refl _) _
  have cY := fun u => bytes_any hi lo h1 h0 u
  have cT := fun u => trim_any (textOf hi lo) (by rw [textOf_size]; omega) u
  have eT : ofL (trimN (textOf hi lo).data.toList) = ofL (numL hi lo) := rfl
  rw [eT] at cT
  have eY : strOfNums (bytesOf hi lo) = textOf hi lo := rfl
  rw [eY] at cY
  clear eT eY
  have hl := numL_len hi lo
  have hz : (ofL (numL hi lo)).size = (numL hi lo).length := ofL_size _
  have cB := fun u => out_byte_none (UInt8.ofNat (numL hi lo).length) ((numL hi lo).length : Int) (by rw [ofNat_b _ (by omega)]) u
  have cW := fun u => out_write_none (ofL (numL hi lo)) u
  have w1 : IntKind.u8.wrap ((numL hi lo).length : Int) = ((numL hi lo).length : Int) := by rw [IntKind.wrap_u8]; omega
  generalize textOf hi lo = Y at *
  generalize ofL (numL hi lo) = D at *
  generalize (numL hi lo).length = n at *
  go_enter Tryz.func88, Tryz.ntmps88
  go_upto_region 1 with fail
  change Code.wp _ _ _ _ (w.alloc (.cells #[.int .u64 hi, .int .u64 lo] 24))
  generalize w.alloc (.cells #[.int .u64 hi, .int .u64 lo] 24) = W at *
  obtain ⟨c0, c1, f0, f1, hin⟩ := B0.two
  go_wp2_with (first
    | (go_at_call 137; refine (cY _).mono ?_; rintro e w1 ⟨rfl, b1⟩)
    | (go_at_call 136; refine (cT _).mono ?_; rintro e w2 ⟨rfl, rfl⟩)
    | (go_at_call 96; refine (cB _).mono ?_; rintro e w3 ⟨rfl, b3⟩)
    | (go_at_call 135; refine (cW _).mono ?_; rintro e w4 ⟨rfl, rfl⟩))
  go_end0
  exact ⟨rfl, chain (chain L0 b1) b3⟩
theorem out_num (g : Nat) (o : Option ByteArray) (lo : Int) (h0 : Word lo) (w : World) (h : OutS w g o) :
    Calls Tryz.prog 89 #[.pointer (some ⟨g, 0, none⟩), .int .u64 lo] w fun e w' => e = .returned (.tuple #[]) ∧ OutS w' g (putB o (ofL (wideL 0 lo))) ∧ Off (One g) w w' := by
  have cO := fun u => of_any lo u
  have cW := fun u (hu : OutS u g o) => out_wide g o 0 lo word0 h0 u hu
  generalize putB o (ofL (wideL 0 lo)) = R at *
  go_enter Tryz.func89, Tryz.ntmps89
  go_wp2_with (first
    | (go_at_call 84; refine (cO _).mono ?_; rintro e w1 ⟨rfl, b1⟩)
    | (go_at_call 88; refine (cW _ (h.call b1)).mono ?_; rintro e w2 ⟨rfl, s2, k2⟩))
  go_end0
  exact ⟨rfl, s2, (Off.of b1).trans k2⟩
theorem out_num_none (lo : Int) (h0 : Word lo) (w : World) : Calls Tryz.prog 89 #[.pointer none, .int .u64 lo] w (Tells (.tuple #[]) w.heap.size w) := by
  have cO := fun u => of_any lo u
  have cW := fun u => out_wide_none 0 lo word0 h0 u
  go_enter Tryz.func89, Tryz.ntmps89
  go_wp2_with (first
    | (go_at_call 84; refine (cO _).mono ?_; rintro e w1 ⟨rfl, b1⟩)
    | (go_at_call 88; refine (cW _).mono ?_; rintro e w2 ⟨rfl, b2⟩))
  go_end0
  exact ⟨rfl, chain b1 b2⟩
theorem out_text (g : Nat) (o : Option ByteArray) (s : ByteArray) (hs : s.size ≤ 4611686018427387903) (w : World) (h : OutS w g o) :
    Calls Tryz.prog 87 #[.pointer (some ⟨g, 0, none⟩), .string s] w fun e w' => e = .returned (.tuple #[]) ∧ OutS w' g (putB o (ofL (textL s))) ∧ Off (One g) w w' := by
  have cN := out_num g o (s.size : Int) ⟨by omega, by omega⟩ w h
  have cW := fun u (hu : OutS u g (putB o (ofL (wideL 0 (s.size : Int))))) => out_write g _ s hs u hu
  have eA : ofL (wideL 0 (s.size : Int)) ++ s = ofL (textL s) := by unfold textL; rw [ofL_app, ofL_data]
  rw [putB_two, eA] at cW
  clear eA
  have w1 : IntKind.u64.wrap (s.size : Int) = (s.size : Int) := by rw [IntKind.wrap_u64]; omega
  generalize putB o (ofL (wideL 0 (s.size : Int))) = o1 at *
  generalize putB o (ofL (textL s)) = R at *
  go_enter Tryz.func87, Tryz.ntmps87
  go_wp2_with (first
    | (go_at_call 89; refine cN.mono ?_; rintro e w1 ⟨rfl, s1, k1⟩)
    | (go_at_call 135; refine (cW _ s1).mono ?_; rintro e w2 ⟨rfl, s2, k2⟩))
  go_end0
  exact ⟨rfl, s2, k1.trans k2⟩
theorem out_text_none (s : ByteArray) (hs : s.size ≤ 4611686018427387903) (w : World) : Calls Tryz.prog 87 #[.pointer none, .string s] w (Tells (.tuple #[]) w.heap.size w) := by
  have cN := out_num_none (s.size : Int) ⟨by omega, by omega⟩ w
  have cW := fun u => out_write_none s u
  have w1 : IntKind.u64.wrap (s.size : Int) = (s.size : Int) := by rw [IntKind.wrap_u64]; omega
  go_enter Tryz.func87, Tryz.ntmps87
  go_wp2_with (first
    | (go_at_call 89; refine cN.mono ?_; rintro e w1 ⟨rfl, b1⟩)
    | (go_at_call 135; refine (cW _).mono ?_; rintro e w2 ⟨rfl, rfl⟩))
  go_end0
  exact ⟨rfl, b1⟩
theorem out_done_none (w : World) : Calls Tryz.prog 12 #[.pointer none] w (Still (.tuple #[.string ⟨#[]⟩, .int .i64 1]) w) := by
  go_enter Tryz.func12, Tryz.ntmps12
  go_wp2
  go_ret2
  exact ⟨rfl, rfl⟩
/-- What Done tells. -/
def doneV (o : Option ByteArray) : Value := match o with | none => .tuple #[.string ⟨#[]⟩, .int .i64 3] | some s => .tuple #[.string s, .int .i64 0]
set_option maxHeartbeats 1000000 in
theorem out_done (g : Nat) (o : Option ByteArray) (w : World) (h : OutS w g o) : Calls Tryz.prog 12 #[.pointer (some ⟨g, 0, none⟩)] w (Still (doneV o) w) := by
  cases o with
  | none =>
    have hb : Box w g 45 #[.pointer none, .int .i64 0, .bool true] := h
    obtain ⟨c0, c1, c2, f0, f1, f2, hin⟩ := hb.three
    go_enter Tryz.func12, Tryz.ntmps12
    go_wp2
    go_ret2
    exact ⟨rfl, rfl⟩
  | some t =>
    obtain ⟨p, l, hb, hp, hc, ht⟩ := h
    obtain ⟨c0, c1, c2, f0, f1, f2, hin⟩ := hb.three
    have hcat : catR l ++ (⟨#[]⟩ : ByteArray) = t := by rw [hc]; exact oext (by simp [ByteArray.data_append])
    clear hc hb
    go_enter Tryz.func12, Tryz.ntmps12
    go_wp2
    go_loopg [4, 5] l.length (fun gk v pv wr => ∃ (m : List ByteArray) (q : Option Addr) (u : ByteArray), gk = m.length ∧ v = .string u ∧ pv = .pointer q ∧ Pieces wr q m ∧ catR m ++ u = t ∧ wr = w)
    case atStart => exact ⟨l, p, ⟨#[]⟩, rfl, rfl, rfl, hp, hcat, rfl⟩
    case round =>
      clear hp hcat c0 c1 c2 f0 f1 f2 hin
      obtain ⟨m, q, u, hgk, rfl, rfl, hp, hcat, rfl⟩ := hrel
      have HG := hideIt hgk
      clear hgk
      cases m with
      | nil =>
        have hq : q = none := hp
        subst hq
        have hu : u = t := by rw [← hcat]; exact (nil_app u).symm
        have HU := hideIt hu
        clear hu hcat
        go_wp2
        go_ret2
        exact ⟨by rw [HU.out]; rfl, rfl⟩
      | cons x r =>
        obtain ⟨b, q2, rfl, hbx, hr⟩ := hp
        obtain ⟨d0, d1, e0, e1, hin2⟩ := hbx.two
        have hzz : (catR r ++ x ++ u).size = t.size := by rw [← hcat]; rfl
        rw [ByteArray.size_append, ByteArray.size_append] at hzz
        obtain ⟨y, hy⟩ : ∃ y, x ++ u = y := ⟨_, rfl⟩
        have hcy : ∀ v : World, (Op.stringOp .add x u).run Tryz.prog v = .ok (.string y) v := fun v => by rw [← hy]; exact run_string_add_sum v _ _ (by omega)
        have hcat2 : catR r ++ y = t := by rw [← hy, ← ByteArray.append_assoc]; exact hcat
        clear hy hzz hbx hcat
        go_wp2
        go_roundg r.length
        case measure => have := HG.out; simp at this; omega
        case rel => exact ⟨r, q2, y, rfl, rfl, rfl, hr, hcat2, rfl⟩
end Go.Proofs.YtmflhodiibjpnaaGreatDoor
