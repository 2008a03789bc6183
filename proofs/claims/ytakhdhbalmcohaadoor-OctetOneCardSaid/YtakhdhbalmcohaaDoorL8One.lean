/-
  The law OctetOne: bytes that are read as some things are those that these are written as; once it is spoilt, all is zero.
  Conditions: none of its own; that utf8's two tables hold what their texts lay is the form's constant (tied by the card), and isn't used.
-/
import Derived.Test.YtakhdhbalmcohaaDoorT8Read
import Derived.Test.YtakhdhbalmcohaaDoorW8Laid
import Derived.ChangeMaps5
namespace Go.Proofs.YtakhdhbalmcohaaDoor
set_option linter.unusedVariables false
set_option linter.unusedSimpArgs false
set_option maxRecDepth 10000
open Go.ChangeShapes Go.WideShapes Go.ChangeAt Go.RowKit

/-- A slice of bytes that came in. -/
def KRow (w : World) (B : Nat) (A : Option Addr) (ks : List Nat) : Prop := ∀ (i k : Nat), ks[i]? = some k → ∃ ad, A = some ad ∧ ad.block < B ∧ w.cell? (ad.add i) = some (.int .u8 k)
theorem open_kinds {H : Type} {enc : TypeId × Value → H} {W : World} {base : Nat} {v : Value} {d : DataW H} {p : List MemPlace} (hval : Value.okWide Tryd.prog W .any base 28 v)
    (h : DataW.Trod enc Tryd.prog W 0 (fun _ => true) true 28 v d p) :
    ∃ (A : Option Addr) (c : Nat) (ks : List Nat), v = .slice A ks.length c ∧ ks.length ≤ 9223372036854775807 ∧ (∀ k ∈ ks, k < 256) ∧ KRow W W.heap.size A ks := by
  obtain ⟨a', len, cap, rfl⟩ := okWide_slice Tryd.underlying28 hval
  obtain ⟨fuel, hf⟩ := h
  rcases Go.Deep.open_slice Tryd.underlying28 hf with ⟨hc, -⟩ | ⟨a, len', cap', m, n, D, Pl, hc, hb, hl, hm, hmm, -, hi⟩
  · have hcell : Value.slice a' len cap = .slice none 0 0 := by simpa [Value.cells] using hc
    injection hcell with e1 e2 e3
    subst e1 e2 e3
    exact ⟨none, 0, [], rfl, Nat.zero_le _, fun x hx => by simp at hx, fun i x hx => by simp at hx⟩
  · have hcell : Value.slice a' len cap = .slice (some a) len' cap' := by simpa [Value.cells] using hc
    have hC : Tryd.prog.cellsOf 5 = 1 := by kernel_rfl
    simp only [if_true] at hmm
    have each : ∀ i, i < len' → ∃ k : Nat, k < 256 ∧ W.cell? (a.add i) = some (.int .u8 k) := fun i hil => by
      obtain ⟨cs', hcs, ht⟩ := hi i (by rw [hmm]; omega)
      rw [hC] at hcs
      obtain ⟨_, hcl, hat⟩ := World.cells?_some hcs
      match cs', hcl with
      | [u0], _ =>
        obtain ⟨x0, e0, -, w0⟩ := DataW.trod_int Tryd.underlying5 ht
        simp at e0
        subst e0
        simp [Lit.wf, IntKind.min, IntKind.max, IntKind.signed, IntKind.bits] at w0
        have h0 := hat 0 (by omega)
        rw [Nat.mul_one, o8_add, Nat.add_zero] at h0
        exact ⟨x0.toNat, by omega, by rw [show ((x0.toNat : Nat) : Int) = x0 by omega]; exact h0⟩
    obtain ⟨xs, hxl, hxp⟩ := o8_choose len' each
    injection hcell with e1 e2 e3
    subst e1 e2 e3
    subst hxl
    unfold maxLen at hm
    refine ⟨some a, cap, xs, rfl, by omega, fun x hx => ?_, fun i x hx => ?_⟩
    · obtain ⟨i, hi', rfl⟩ := List.getElem_of_mem hx
      exact (hxp i hi').1
    · obtain ⟨hi', e⟩ := List.getElem?_eq_some_iff.1 hx
      obtain ⟨-, h0⟩ := hxp i hi'
      rw [e] at h0
      have := World.block_lt_of_cell? _ _ h0
      rw [o8_block] at this
      exact ⟨a, rfl, this, h0⟩

theorem Box.z5d {w : World} {b : Nat} {t : TypeId} {k h l m : Int} {s : ByteArray} (x : Box w b t #[.int .u8 k, .int .u64 h, .int .u64 l, .string s, .int .i64 m]) : w.cell? ⟨b, 0, none⟩ = some (.int .u8 k) ∧ w.cell? ⟨b, 1, none⟩ = some (.int .u64 h) ∧ w.cell? ⟨b, 2, none⟩ = some (.int .u64 l) ∧
    w.cell? ⟨b, 3, none⟩ = some (.string s) ∧ w.cell? ⟨b, 4, none⟩ = some (.int .i64 m) := ⟨x.read 0, x.read 1, x.read 2, x.read 3, x.read 4⟩
theorem ofL_extract (l : List UInt8) (n : Nat) (s : ByteArray) (h : s.data.toList = l) : s.extract 0 n = ofL (l.take n) := oext (by
  rw [ByteArray.data_extract, Array.toList_extract, List.extract_eq_take_drop, h, ofL_list]
  simp)

set_option maxHeartbeats 2000000 in
theorem one_long (s : ByteArray) (A : Option Addr) (c : Nat) (ks : List Nat) (h : 1000 < s.size ∨ 200 < ks.length) (w : World) :
    Calls Tryd.prog 6 #[.string s, .slice A ks.length c] w (Tells (.bool true) w.heap.size w) := by
  have cw := fun u => awake8_any u
  by_cases h1 : 1000 < s.size
  · have h2 : (1000 : Int) < (s.size : Int) := by omega
    go_enter Tryd.func6, Tryd.ntmps6
    go_wp2_with (first | (go_at_call 24; refine (cw _).mono ?_; rintro e w1 ⟨rfl, j1⟩))
    go_ret
    exact ⟨rfl, j1⟩
  · have h2 : ¬ ((1000 : Int) < (s.size : Int)) := by omega
    have h3 : (200 : Int) < (ks.length : Int) := by omega
    go_enter Tryd.func6, Tryd.ntmps6
    go_wp2_with (first | (go_at_call 24; refine (cw _).mono ?_; rintro e w1 ⟨rfl, j1⟩))
    go_ret
    exact ⟨rfl, j1⟩

set_option maxRecDepth 100000 in
set_option maxHeartbeats 8000000 in
theorem one_short (s : ByteArray) (A : Option Addr) (c : Nat) (ks : List Nat) (hs : s.size ≤ 1000) (hl : ks.length ≤ 200) (hk : ∀ k ∈ ks, k < 256) (w : World) (hr : KRow w w.heap.size A ks) :
    Calls Tryd.prog 6 #[.string s, .slice A ks.length c] w (Tells (.bool true) w.heap.size w) := by
  have cw := fun u => awake8_any u
  have cO := fun u => in_open s (by omega) u
  have h2 : ¬ ((1000 : Int) < (s.size : Int)) := by omega
  have h3 : ¬ ((200 : Int) < (ks.length : Int)) := by omega
  have HK := hideIt hk
  clear hk
  go_enter Tryd.func6, Tryd.ntmps6
  go_upto_region 6 with (first
    | (go_at_call 24; refine (cw _).mono ?_; rintro e w1 ⟨rfl, j1⟩)
    | (go_at_call 26; refine (cO _).mono ?_; rintro e w2 ⟨g, rfl, hg, I2, j2⟩)
    | fail)
  have L2 := chain j1 j2
  have g0 : w.heap.size ≤ g := Nat.le_trans j1.size hg
  clear cw cO j1 j2 hg
  have hpl : s.data.toList.length = s.size := osize s
  go_wp2
  go_loopg [6, 7] ks.length (fun gk v i wr => ∃ (k : Nat) (p l : List UInt8), k ≤ ks.length ∧ gk = ks.length - k ∧ v = .string (ofL p) ∧ i = .int .i64 k ∧ InS wr g (some l) ∧ p ++ l = s.data.toList ∧ Below w.heap.size w wr)
  case atStart => exact ⟨0, [], s.data.toList, Nat.zero_le _, rfl, rfl, rfl, I2, rfl, L2⟩
  case round =>
    clear I2 L2
    obtain ⟨k, p, l, hkl, hgk, rfl, rfl, I, hpq, L⟩ := hrel
    have HG := hideIt hgk
    clear hgk
    have hplen : p.length + l.length = s.size := by rw [← hpl, ← hpq, List.length_append]
    by_cases hlt : k < ks.length
    · obtain ⟨kd, hkd⟩ : ∃ kd, ks[k]? = some kd := ⟨_, List.getElem?_eq_getElem hlt⟩
      obtain ⟨ad, rfl, hb, q0⟩ := hr k kd hkd
      have q1 : wr.cell? (ad.add k) = some (.int .u8 kd) := by rw [L.cell (by rw [o8_block]; exact hb)]; exact q0
      have hb2 : (ad.add k).block < wr.heap.size := by rw [o8_block]; exact Nat.lt_of_lt_of_le hb L.size
      have b1 : (k : Int) < (ks.length : Int) := by omega
      have kd256 := HK.out kd (List.mem_of_getElem? hkd)
      have cR := law_read kd kd256 1000 (by decide) g _ wr I
      clear hr q0
      have h5 : kd % 5 < 5 := Nat.mod_lt _ (by decide)
      cases hop : opR kd (1000 : Int).toNat (some l) with
      | none =>
        rw [hop] at cR
        have cR2 := fun u hu => law_read kd kd256 1000 (by decide) g none u hu
        have e1 : (rdTh kd 1000 (vOf (none : Option (Vl × List UInt8)))).val = .agg #[.int .u8 kd, .int .u64 0, .int .u64 0, .string ⟨#[]⟩, .int .i64 1000] := rfl
        have e2 : nxt (none : Option (Vl × List UInt8)) = none := rfl
        rw [show opR kd (1000 : Int).toNat none = none from rfl] at cR2
        rw [e1, e2] at cR cR2
        have hz := fun u => eql_n8_same 0 0 u
        clear e1 e2 hop
        go_upto_region 13 with (first
          | (go_at_call 27; refine cR.mono ?_; rintro e w3 ⟨rfl, I3, k3⟩)
          | fail)
        have L3 := L.trans (k3.below (fun i hi => by have : i = g := hi; omega) L.size)
        have B4 := Box.made w3 37 #[.int .u8 kd, .int .u64 0, .int .u64 0, .string ⟨#[]⟩, .int .i64 1000]
        have L4 := chainA L3 (.cells #[.int .u8 kd, .int .u64 0, .int .u64 0, .string ⟨#[]⟩, .int .i64 1000] 37)
        have I4 := I3.call (w' := w3.alloc (.cells #[.int .u8 kd, .int .u64 0, .int .u64 0, .string ⟨#[]⟩, .int .i64 1000] 37)) ((Below.refl _ w3).alloc (Nat.le_refl _) _)
        change Code.wp _ _ _ _ (w3.alloc (.cells #[.int .u8 kd, .int .u64 0, .int .u64 0, .string ⟨#[]⟩, .int .i64 1000] 37))
        have gx : g < w3.heap.size := I3.inside
        generalize w3.alloc (.cells #[.int .u8 kd, .int .u64 0, .int .u64 0, .string ⟨#[]⟩, .int .i64 1000] 37) = W4 at *
        generalize w3.heap.size = xb at *
        have cS := in_spoilt W4 g _ I4
        have q4 : W4.cell? (ad.add k) = some (.int .u8 kd) := by rw [← q1]; exact (L4.cell (by rw [o8_block]; exact hb)).trans (L.cell (by rw [o8_block]; exact hb)).symm
        have hb4 : (ad.add k).block < W4.heap.size := by rw [o8_block]; exact Nat.lt_of_lt_of_le hb L4.size
        go_upto_region 15 with (first
          | (go_at_call 21; refine cS.mono ?_; rintro e w5 ⟨rfl, rfl⟩)
          | (go_at_call 27; refine (cR2 _ I4).mono ?_; rintro e w6 ⟨rfl, I6, k6⟩)
          | fail)
        have B6 := k6.box B4 (fun e => by have : xb = g := e; omega)
        have L6 := L4.trans (k6.below (fun i hi => by have : i = g := hi; omega) L4.size)
        have B7 := Box.made w6 37 #[.int .u8 kd, .int .u64 0, .int .u64 0, .string ⟨#[]⟩, .int .i64 1000]
        have B8 := B6.past (.cells #[.int .u8 kd, .int .u64 0, .int .u64 0, .string ⟨#[]⟩, .int .i64 1000] 37)
        have L7 := chainA L6 (.cells #[.int .u8 kd, .int .u64 0, .int .u64 0, .string ⟨#[]⟩, .int .i64 1000] 37)
        have I7 := I6.call (w' := w6.alloc (.cells #[.int .u8 kd, .int .u64 0, .int .u64 0, .string ⟨#[]⟩, .int .i64 1000] 37)) ((Below.refl _ w6).alloc (Nat.le_refl _) _)
        change Code.wp _ _ _ _ (w6.alloc (.cells #[.int .u8 kd, .int .u64 0, .int .u64 0, .string ⟨#[]⟩, .int .i64 1000] 37))
        generalize w6.alloc (.cells #[.int .u8 kd, .int .u64 0, .int .u64 0, .string ⟨#[]⟩, .int .i64 1000] 37) = W7 at *
        generalize w6.heap.size = yb at *
        have cT := in_rest W7 g _ I7
        have cC := in_close W7 g _ I7
        rw [show restN none = 0 from rfl] at cT
        rw [show closeN none = 80 from rfl] at cC
        obtain ⟨u0, u1, u2, u3, u4⟩ := Box.z5d B8
        obtain ⟨v0, v1, v2, v3, v4⟩ := Box.z5d B7
        have in1 := B7.inside
        have in2 := B8.inside
        clear q1 q4 hb2 hb4 B4 B6 k3 k6 I4 I6 I3 cR cR2
        go_wp2_with (first
          | (go_at_call 22; refine cT.mono ?_; rintro e w8 ⟨rfl, rfl⟩)
          | (go_at_call 23; refine cC.mono ?_; rintro e w8 ⟨rfl, rfl⟩))
        go_ret
        exact ⟨rfl, L7⟩
      | some vr =>
        obtain ⟨v, r⟩ := vr
        rw [hop] at cR
        obtain ⟨e1, e2, e3, e4⟩ := wr_rd (k := kd % 5) (m := 1000) (l := l) (r := r) (v := v) h5 hop
        have ok : (rdTh kd 1000 v).Ok := ⟨kd256, e2, e3, by show (ofL v.s).size ≤ _; rw [ofL_size]; omega, by show (1000 : Int) < _; omega, by show _ ≤ (1000 : Int); omega⟩
        have cW := fun b c u hb => wrote_one (rdTh kd 1000 v) ok (by show (ofL v.s).size ≤ _; rw [ofL_size]; omega) b c u hb
        have et : (rdTh kd 1000 v).text = ofL (wrL (kd % 5) v.h v.l v.s) := by
          show ofL (wrL (kd % 5) v.h v.l (ofL v.s).data.toList) = _
          rw [ofL_list]
        rw [et] at cW
        have ev : vOf (some (v, r)) = v := rfl
        have en : nxt (some (v, r)) = some r := rfl
        rw [ev, en] at cR
        obtain ⟨q, hq⟩ : ∃ q, wrL (kd % 5) v.h v.l v.s = q := ⟨_, rfl⟩
        rw [hq] at cW e1
        subst e1
        have hq2 : (p ++ q) ++ r = s.data.toList := by rw [List.append_assoc]; exact hpq
        have hadd : ∀ u : World, (Op.stringOp .add (ofL p) (ofL q)).run Tryd.prog u = .ok (.string (ofL (p ++ q))) u := fun u => by
          rw [ofL_app]
          exact run_string_add_sum u _ _ (by rw [ofL_size, ofL_size]; rw [List.length_append] at hplen; omega)
        have hsz : (ofL (p ++ q)).size = (p ++ q).length := ofL_size _
        have hln : (p ++ q).length + r.length = s.size := by rw [← hpl, ← hq2]; simp only [List.length_append]
        have hex : s.extract 0 (p ++ q).length = ofL (p ++ q) := by
          rw [ofL_extract _ _ s rfl, ← hq2, List.take_left]
        have hQQ : ((ofL (p ++ q)).toList == (ofL (p ++ q)).toList) = true := by simp
        have hval : (rdTh kd 1000 v).val = .agg #[.int .u8 kd, .int .u64 v.h, .int .u64 v.l, .string (ofL v.s), .int .i64 1000] := rfl
        have hthc : thC (rdTh kd 1000 v) = #[.int .u8 kd, .int .u64 v.h, .int .u64 v.l, .string (ofL v.s), .int .i64 1000] := rfl
        rw [hval] at cR
        rw [hthc] at cW
        have HQ2 := hideIt hq2
        clear hop ok et ev en hq hq2 hpq hplen hval hthc e2 e3 e4
        generalize ofL v.s = S at *
        obtain ⟨Q, hQ⟩ : ∃ Q, ofL (p ++ q) = Q := ⟨_, rfl⟩
        rw [hQ] at hsz hex hQQ
        simp only [hQ] at hadd
        have HQ := hideIt hQ
        clear hQ
        obtain ⟨nq, hnq⟩ : ∃ nq, (p ++ q).length = nq := ⟨_, rfl⟩
        rw [hnq] at hsz hln hex
        have hnqi : IntKind.i64.wrap ((s.size : Int) - (r.length : Int)) = (nq : Int) := by rw [show (s.size : Int) - (r.length : Int) = (nq : Int) by omega]; exact IntWalk.i64_in _ (by omega)
        have hnqs : (nq : Int) ≤ (s.size : Int) := by omega
        have hnqn : nq ≤ s.size := by omega
        clear hln hnq
        go_upto_region 13 with (first
          | (go_at_call 27; refine cR.mono ?_; rintro e w3 ⟨rfl, I3, k3⟩)
          | fail)
        have L3 := L.trans (k3.below (fun i hi => by have : i = g := hi; omega) L.size)
        have B4 := Box.made w3 37 #[.int .u8 kd, .int .u64 v.h, .int .u64 v.l, .string S, .int .i64 1000]
        have L4 := chainA L3 (.cells #[.int .u8 kd, .int .u64 v.h, .int .u64 v.l, .string S, .int .i64 1000] 37)
        have I4 := I3.call (w' := w3.alloc (.cells #[.int .u8 kd, .int .u64 v.h, .int .u64 v.l, .string S, .int .i64 1000] 37)) ((Below.refl _ w3).alloc (Nat.le_refl _) _)
        change Code.wp _ _ _ _ (w3.alloc (.cells #[.int .u8 kd, .int .u64 v.h, .int .u64 v.l, .string S, .int .i64 1000] 37))
        generalize w3.alloc (.cells #[.int .u8 kd, .int .u64 v.h, .int .u64 v.l, .string S, .int .i64 1000] 37) = W4 at *
        generalize w3.heap.size = xb at *
        have cS := in_spoilt W4 g _ I4
        rw [show (some r).isNone = false from rfl] at cS
        obtain ⟨u0, u1, u2, u3, u4⟩ := Box.z5d B4
        have in1 := B4.inside
        have I5 := fun w' hb' => I4.call (w' := w') hb'
        go_upto_region 17 with (first
          | (go_at_call 21; refine cS.mono ?_; rintro e w5 ⟨rfl, rfl⟩)
          | (go_at_call 25; refine (cW _ _ _ (Box.made _ _ _)).mono ?_; rintro e w6 ⟨rfl, j6⟩)
          | fail)
        have L6 := chain (chainA L4 _) j6
        have I6 := I4.call ((Below.refl _ W4).alloc (Nat.le_refl _) (.cells #[.int .u8 kd, .int .u64 v.h, .int .u64 v.l, .string S, .int .i64 1000] 37))
        have I7 := I6.call j6
        clear u0 u1 u2 u3 u4 in1 I6 I4 I3 B4 k3 q1 hb2 cR cW cS j6 I5 L4 L3
        have cT := in_rest w6 g _ I7
        rw [show restN (some r) = r.length from rfl] at cT
        go_wp2_with (first
          | (go_at_call 22; refine cT.mono ?_; rintro e w8 ⟨rfl, rfl⟩))
        go_roundg (ks.length - (k + 1))
        case measure => have := HG.out; omega
        case rel => exact ⟨k + 1, p ++ q, r, by omega, rfl, by rw [← HQ.out], by go_num, I7, HQ2.out, L6⟩
    · have e : k = ks.length := by omega
      subst e
      have cC := in_close wr g _ I
      by_cases hnil : l = []
      · subst hnil
        rw [List.append_nil] at hpq
        have e1 : ofL p = s := by rw [hpq]; exact ofL_data s
        rw [e1]
        rw [show closeN (some []) = 0 from rfl] at cC
        have hQQ : (s.toList == s.toList) = true := by simp
        clear hr HG hpq hplen hpl
        go_wp2_with (first | (go_at_call 23; refine cC.mono ?_; rintro e w8 ⟨rfl, rfl⟩))
        go_ret
        exact ⟨rfl, L⟩
      · have e1 : ((ofL p).toList == s.toList) = false := by
          rw [Lib.toList_data, Lib.toList_data, ofL_list, beq_eq_false_iff_ne, ← hpq]
          intro e
          apply hnil
          have := congrArg List.length e
          rw [List.length_append] at this
          exact List.length_eq_zero_iff.1 (by omega)
        rw [show closeN (some l) = 80 by unfold closeN; rw [if_neg (fun e => hnil (Option.some.inj e))]] at cC
        clear hr HG hpq hplen hpl
        generalize ofL p = P at *
        go_wp2_with (first | (go_at_call 23; refine cC.mono ?_; rintro e w8 ⟨rfl, rfl⟩))
        go_ret
        exact ⟨rfl, L⟩

theorem octetOne_core (H : Type) (enc : TypeId × Value → H) (W : World) (base : Nat) (args : Array Value) (ds gs : List (DataW H)) (before : List MemPlace)
    (hval : ∀ (j : Nat) t v, Tryd.f6.params[j]? = some t → args[j]? = some v → Value.okWide Tryd.prog W .any base t v)
    (hW : DataW.Whole enc Tryd.prog Tryd.f6.params.toList Rows.octetOneSpec.vars false W args.toList ds gs before) (hT : True) :
    gs = [] ∧ ds.length = 2 ∧ Calls Tryd.prog 6 args W (Tells (.bool true) W.heap.size W) := by
  obtain ⟨p, q, hA, hV, -, -, -⟩ := hW
  obtain ⟨rfl, rfl⟩ := trodVars_none hV
  have hA : DataW.TrodAll enc Tryd.prog W 0 (fun _ => true) true Tryd.f6.params.toList args.toList ds p := hA
  rw [Tryd.params6] at hA hval
  obtain ⟨v0, vs0, d0, ds0, p0, ps0, e0, rfl, -, h0, hA⟩ := trodAll_cons hA
  obtain ⟨v1, vs1, d1, ds1, p1, ps1, rfl, rfl, -, h1, hA⟩ := trodAll_cons hA
  obtain ⟨rfl, rfl, rfl⟩ := trodAll_nil hA
  obtain rfl : args = #[v0, v1] := Array.ext' e0
  obtain ⟨s, rfl, rfl, rfl, hs⟩ := Go.ChangeMaps.open_string Tryd.underlying9 (hval 0 9 v0 rfl rfl) h0
  obtain ⟨A, c, ks, rfl, hm, hk, hr⟩ := open_kinds (hval 1 28 v1 rfl rfl) h1
  refine ⟨rfl, rfl, ?_⟩
  by_cases h : 1000 < s.size ∨ 200 < ks.length
  · exact one_long s A c ks h W
  · exact one_short s A c ks (by omega) (by omega) hk W hr

set_option maxRecDepth 100000 in
theorem octetOne_lifted (os : Os) (started : os.Started) (H : Type) (enc : TypeId × Value → H) :
    ReturnsInHanded {} Tryd.checked os 6 .any (fun w args => (Rows.octetOneSpec.pre enc Tryd.prog Tryd.f6 [] false w args ∧ laidMetH Tryd.prog laidU w) ∧ sizedMet enc Tryd.prog Tryd.f6 (OpenSpec.ofChange Rows.octetOneSpec) false w args)
      (Rows.octetOneSpec.post enc Tryd.prog Tryd.f6 false true false false) := by
  refine returnsInHanded_of_change_and (C := Tryd.checked) (X := fun w _ => laidMetH Tryd.prog laidU w) (fun _ _ _ hh h => h.of_heap hh) own_knob started (by kernel_rfl) Tryd.func6
    (ChangeSpec.witness_shaped (enc := enc) (C := Tryd.checked) (os := os) (X := fun w _ => laidMetH Tryd.prog laidU w) false (World.laidAll Tryd.prog os laidU) #[.string ⟨#[]⟩, .slice none 0 0] 8 (World.laidAll_os _ _ _) (World.shaped_of_ZipB (by kernel_rfl) (by kernel_rfl)) (by kernel_rfl) (by kernel_rfl) (by kernel_rfl) (met_U os _)) ?_
  intro W base args ds gs before hval0 hW _ hwt hL _
  have hval : ∀ (j : Nat) t v, Tryd.f6.params[j]? = some t → args[j]? = some v → Value.okWide Tryd.prog W .any base t v := hval0
  obtain ⟨hg, hlen, hc⟩ := octetOne_core H enc W base args ds gs before hval hW (tab_of_laidU hL)
  subst hg
  have hr : (Tryd.f6.params.toList.all fun t => Tryd.prog.readableRec t && decide (t < Tryd.prog.types.size)) = true := by kernel_rfl
  have hread : ∀ t ∈ Tryd.f6.params.toList, Tryd.prog.readableRec t = true ∧ t < Tryd.prog.types.size := fun t ht => by
    have h := List.all_eq_true.1 hr t ht
    rw [Bool.and_eq_true, decide_eq_true_eq] at h
    exact h
  refine hc.mono fun e W' ⟨he, hb⟩ => ?_
  subst he
  match ds, hlen with
  | [d0, d1], _ => exact ⟨_, rfl, law_post laid_out Tryd.underlying4 rfl hread rfl hW rfl rfl rfl hb⟩

theorem octetOne_holds : Rows.OctetOneSaid :=
  OpenClaim.holds_of_wide 6 Tryd.f6 rfl rfl rfl rfl rfl rfl rfl ⟨rfl, rfl, rfl, rfl, rfl⟩ rfl rfl rfl rfl rfl (by kernel_rfl) Tryd.func6 (by kernel_rfl)
    (of_decide_eq_true (by kernel_rfl)) (by unfold Func.isWrapper; first | (rw [if_pos (by decide +kernel)]; kernel_rfl) | (rw [if_neg (by decide +kernel)]; exact ⟨rfl, rfl⟩))
    (fun os started H enc _ => octetOne_lifted os started H enc)

theorem octetOne_card : Rows.OctetOneCardSaid :=
  Claim7.holds_tied_plain_at .later [] [.data, .pinned] true _ false
    octetOne_holds (fun _ h => by cases h) (by kernel_rfl) (fun _ h => by cases h) octetOne_row_tie rfl ⟨rfl, rfl⟩ (by kernel_rfl) rfl
    (fun f fn hf hfn => by
      obtain rfl : f = 6 := Option.some.inj ((show Tryd.prog.funcNamed "paymaster/paymasterlaw08.OctetOne" = some 6 by kernel_rfl).symm.trans hf) |>.symm
      obtain rfl : fn = Tryd.f6 := (Option.some.inj (Tryd.func6.symm.trans hfn)).symm
      exact ⟨by kernel_rfl, fun j t ht => by
        have hm : t ∈ Tryd.f6.params.toList := by simpa using Array.mem_of_getElem? ht
        have hall : (Tryd.f6.params.toList.all fun u => !Tryd.prog.wantsStandIn u) = true := by kernel_rfl
        exact (show Tryd.prog.wantsStandIn t = false by simpa using List.all_eq_true.1 hall t hm)⟩)
    (by kernel_rfl)

end Go.Proofs.YtakhdhbalmcohaaDoor
