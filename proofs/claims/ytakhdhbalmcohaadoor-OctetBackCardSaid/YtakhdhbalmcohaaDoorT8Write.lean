/-
  The law's own small calls on what is written, walked: write, wrote.
-/
import Derived.Test.YtakhdhbalmcohaaDoorT8Row
import Derived.Test.YtakhdhbalmcohaaDoorU8Done
namespace Go.Proofs.YtakhdhbalmcohaaDoor
set_option linter.unusedVariables false
set_option linter.unusedSimpArgs false
set_option maxRecDepth 10000
open Go.RowKit Go.Shelf

theorem Th.list_0 (x : Th) (h : x.k % 5 = 0) : x.list = [UInt8.ofNat (x.l % 256).toNat] := by unfold Th.list wrL; rw [h]; rfl
theorem Th.list_1 (x : Th) (h : x.k % 5 = 1) : x.list = wideL 0 x.l := by unfold Th.list wrL; rw [h]; rfl
theorem Th.list_2 (x : Th) (h : x.k % 5 = 2) : x.list = wideL x.h x.l := by unfold Th.list wrL; rw [h]; rfl
theorem Th.list_3 (x : Th) (h : x.k % 5 = 3) : x.list = [b01 (decide (x.l % 2 = 1))] := by unfold Th.list wrL; rw [h]; rfl
theorem Th.list_4 (x : Th) (h : x.k % 5 = 4) : x.list = textL x.s := by unfold Th.list; rw [h, wrL_4 4 _ _ _ (Nat.le_refl _), osize]; rfl

set_option maxHeartbeats 2000000 in
theorem law_write (x : Th) (ok : x.Ok) (hs : x.s.size ≤ 4611686018427387903) (g : Nat) (o : Option ByteArray) (w : World) (h : OutS w g o) :
    Calls Tryd.prog 12 #[.pointer (some ⟨g, 0, none⟩), x.val] w fun e w' => e = .returned (.tuple #[]) ∧ OutS w' g (putB o x.text) ∧ Off (One g) w w' := by
  have L0 : Below w.heap.size w (w.alloc (.cells (thC x) 37)) := (Below.refl _ w).alloc (Nat.le_refl _) _
  have B0 := Box.made w 37 (thC x)
  have H0 := h.call L0
  obtain ⟨q0, q1, q2, q3, q4⟩ := B0.thing
  have hin := B0.inside
  have ev : x.val = .agg #[.int .u8 x.k, .int .u64 x.h, .int .u64 x.l, .string x.s, .int .i64 x.m] := rfl
  rw [ev]
  have hk5 : x.k % 5 < 5 := Nat.mod_lt _ (by decide)
  have hl0 := ok.l
  obtain ⟨l0, l1⟩ := hl0
  rcases (show x.k % 5 = 0 ∨ x.k % 5 = 1 ∨ x.k % 5 = 2 ∨ x.k % 5 = 3 ∨ x.k % 5 = 4 by omega) with hk | hk | hk | hk | hk
  · have et : x.text = ofL [UInt8.ofNat (x.l % 256).toNat] := by unfold Th.text; rw [x.list_0 hk]
    have c := out_byte g o (UInt8.ofNat (x.l % 256).toNat) (x.l % 256) (by rw [ofNat_b _ (by omega)]; omega) _ H0
    rw [← et] at c
    clear et
    have w1 : IntKind.u8.wrap x.l = x.l % 256 := by rw [IntKind.wrap_u8]
    generalize x.text = T at *
    obtain ⟨m1, m2, m3⟩ := kind_five x.k 0 hk ok.k
    go_enter Tryd.func12, Tryd.ntmps12
    go_upto_region 1 with fail
    change Code.wp _ _ _ _ (w.alloc (.cells (thC x) 37))
    generalize w.alloc (.cells (thC x) 37) = W at *
    go_wp2_with (first | (go_at_call 34; refine c.mono ?_; rintro e w1 ⟨rfl, s1, k1⟩))
    first | go_end0 | refine bodyPost_ret (results_none rfl _ _ _) rfl ?_
    exact ⟨rfl, s1, (Off.of L0).trans k1⟩
  · have et : x.text = ofL (wideL 0 x.l) := by unfold Th.text; rw [x.list_1 hk]
    have c := out_num g o x.l ok.l _ H0
    rw [← et] at c
    clear et
    generalize x.text = T at *
    obtain ⟨m1, m2, m3⟩ := kind_five x.k 1 hk ok.k
    go_enter Tryd.func12, Tryd.ntmps12
    go_upto_region 1 with fail
    change Code.wp _ _ _ _ (w.alloc (.cells (thC x) 37))
    generalize w.alloc (.cells (thC x) 37) = W at *
    go_wp2_with (first | (go_at_call 32; refine c.mono ?_; rintro e w1 ⟨rfl, s1, k1⟩))
    first | go_end0 | refine bodyPost_ret (results_none rfl _ _ _) rfl ?_
    exact ⟨rfl, s1, (Off.of L0).trans k1⟩
  · have et : x.text = ofL (wideL x.h x.l) := by unfold Th.text; rw [x.list_2 hk]
    have c := out_wide g o x.h x.l ok.h ok.l _ H0
    rw [← et] at c
    clear et
    generalize x.text = T at *
    obtain ⟨m1, m2, m3⟩ := kind_five x.k 2 hk ok.k
    go_enter Tryd.func12, Tryd.ntmps12
    go_upto_region 1 with fail
    change Code.wp _ _ _ _ (w.alloc (.cells (thC x) 37))
    generalize w.alloc (.cells (thC x) 37) = W at *
    go_wp2_with (first | (go_at_call 35; refine c.mono ?_; rintro e w1 ⟨rfl, s1, k1⟩))
    first | go_end0 | refine bodyPost_ret (results_none rfl _ _ _) rfl ?_
    exact ⟨rfl, s1, (Off.of L0).trans k1⟩
  · have et : x.text = ofL [b01 (decide (x.l % 2 = 1))] := by unfold Th.text; rw [x.list_3 hk]
    have c := out_flag g o (decide (x.l % 2 = 1)) _ H0
    rw [← et] at c
    clear et
    generalize x.text = T at *
    have w1 : (x.l.tmod 2) = x.l % 2 := by rw [Int.tmod_eq_emod_of_nonneg l0]
    have w2 : ((x.l % 2) == 1) = decide (x.l % 2 = 1) := by simp [BEq.beq]
    generalize decide (x.l % 2 = 1) = q at *
    obtain ⟨m1, m2, m3⟩ := kind_five x.k 3 hk ok.k
    go_enter Tryd.func12, Tryd.ntmps12
    go_upto_region 1 with fail
    change Code.wp _ _ _ _ (w.alloc (.cells (thC x) 37))
    generalize w.alloc (.cells (thC x) 37) = W at *
    go_wp2_with (first | (go_at_call 36; refine c.mono ?_; rintro e w1 ⟨rfl, s1, k1⟩))
    first | go_end0 | refine bodyPost_ret (results_none rfl _ _ _) rfl ?_
    exact ⟨rfl, s1, (Off.of L0).trans k1⟩
  · have et : x.text = ofL (textL x.s) := by unfold Th.text; rw [x.list_4 hk]
    have c := out_text g o x.s hs _ H0
    rw [← et] at c
    clear et
    generalize x.text = T at *
    obtain ⟨m1, m2, m3⟩ := kind_five x.k 4 hk ok.k
    go_enter Tryd.func12, Tryd.ntmps12
    go_upto_region 1 with fail
    change Code.wp _ _ _ _ (w.alloc (.cells (thC x) 37))
    generalize w.alloc (.cells (thC x) 37) = W at *
    go_wp2_with (first | (go_at_call 10; refine c.mono ?_; rintro e w1 ⟨rfl, s1, k1⟩))
    first | go_end0 | refine bodyPost_ret (results_none rfl _ _ _) rfl ?_
    exact ⟨rfl, s1, (Off.of L0).trans k1⟩
set_option maxHeartbeats 2000000 in
theorem law_write_none (x : Th) (ok : x.Ok) (hs : x.s.size ≤ 4611686018427387903) (w : World) : Calls Tryd.prog 12 #[.pointer none, x.val] w (Tells (.tuple #[]) w.heap.size w) := by
  have L0 : Below w.heap.size w (w.alloc (.cells (thC x) 37)) := (Below.refl _ w).alloc (Nat.le_refl _) _
  have B0 := Box.made w 37 (thC x)
  obtain ⟨q0, q1, q2, q3, q4⟩ := B0.thing
  have hin := B0.inside
  have ev : x.val = .agg #[.int .u8 x.k, .int .u64 x.h, .int .u64 x.l, .string x.s, .int .i64 x.m] := rfl
  rw [ev]
  have hk5 : x.k % 5 < 5 := Nat.mod_lt _ (by decide)
  have hl0 := ok.l
  obtain ⟨l0, l1⟩ := hl0
  rcases (show x.k % 5 = 0 ∨ x.k % 5 = 1 ∨ x.k % 5 = 2 ∨ x.k % 5 = 3 ∨ x.k % 5 = 4 by omega) with hk | hk | hk | hk | hk
  · have c := fun u => out_byte_none (UInt8.ofNat (x.l % 256).toNat) (x.l % 256) (by rw [ofNat_b _ (by omega)]; omega) u
    have w1 : IntKind.u8.wrap x.l = x.l % 256 := by rw [IntKind.wrap_u8]
    obtain ⟨m1, m2, m3⟩ := kind_five x.k 0 hk ok.k
    go_enter Tryd.func12, Tryd.ntmps12
    go_upto_region 1 with fail
    change Code.wp _ _ _ _ (w.alloc (.cells (thC x) 37))
    generalize w.alloc (.cells (thC x) 37) = W at *
    go_wp2_with (first | (go_at_call 34; refine (c _).mono ?_; rintro e w1 ⟨rfl, k1⟩))
    first | go_end0 | refine bodyPost_ret (results_none rfl _ _ _) rfl ?_
    exact ⟨rfl, chain L0 k1⟩
  · have c := fun u => out_num_none x.l ok.l u
    obtain ⟨m1, m2, m3⟩ := kind_five x.k 1 hk ok.k
    go_enter Tryd.func12, Tryd.ntmps12
    go_upto_region 1 with fail
    change Code.wp _ _ _ _ (w.alloc (.cells (thC x) 37))
    generalize w.alloc (.cells (thC x) 37) = W at *
    go_wp2_with (first | (go_at_call 32; refine (c _).mono ?_; rintro e w1 ⟨rfl, k1⟩))
    first | go_end0 | refine bodyPost_ret (results_none rfl _ _ _) rfl ?_
    exact ⟨rfl, chain L0 k1⟩
  · have c := fun u => out_wide_none x.h x.l ok.h ok.l u
    obtain ⟨m1, m2, m3⟩ := kind_five x.k 2 hk ok.k
    go_enter Tryd.func12, Tryd.ntmps12
    go_upto_region 1 with fail
    change Code.wp _ _ _ _ (w.alloc (.cells (thC x) 37))
    generalize w.alloc (.cells (thC x) 37) = W at *
    go_wp2_with (first | (go_at_call 35; refine (c _).mono ?_; rintro e w1 ⟨rfl, k1⟩))
    first | go_end0 | refine bodyPost_ret (results_none rfl _ _ _) rfl ?_
    exact ⟨rfl, chain L0 k1⟩
  · have c := fun u => out_flag_none (decide (x.l % 2 = 1)) u
    have w1 : (x.l.tmod 2) = x.l % 2 := by rw [Int.tmod_eq_emod_of_nonneg l0]
    have w2 : ((x.l % 2) == 1) = decide (x.l % 2 = 1) := by simp [BEq.beq]
    generalize decide (x.l % 2 = 1) = q at *
    obtain ⟨m1, m2, m3⟩ := kind_five x.k 3 hk ok.k
    go_enter Tryd.func12, Tryd.ntmps12
    go_upto_region 1 with fail
    change Code.wp _ _ _ _ (w.alloc (.cells (thC x) 37))
    generalize w.alloc (.cells (thC x) 37) = W at *
    go_wp2_with (first | (go_at_call 36; refine (c _).mono ?_; rintro e w1 ⟨rfl, k1⟩))
    first | go_end0 | refine bodyPost_ret (results_none rfl _ _ _) rfl ?_
    exact ⟨rfl, chain L0 k1⟩
  · have c := fun u => out_text_none x.s hs u
    obtain ⟨m1, m2, m3⟩ := kind_five x.k 4 hk ok.k
    go_enter Tryd.func12, Tryd.ntmps12
    go_upto_region 1 with fail
    change Code.wp _ _ _ _ (w.alloc (.cells (thC x) 37))
    generalize w.alloc (.cells (thC x) 37) = W at *
    go_wp2_with (first | (go_at_call 10; refine (c _).mono ?_; rintro e w1 ⟨rfl, k1⟩))
    first | go_end0 | refine bodyPost_ret (results_none rfl _ _ _) rfl ?_
    exact ⟨rfl, chain L0 k1⟩

/-- What is written of things; all their bytes. -/
def wroteO (xs : List Th) : Option ByteArray := xs.foldl (fun o x => putB o x.text) (some ⟨#[]⟩)
def allL (xs : List Th) : List UInt8 := xs.flatMap Th.list
theorem wroteO_snoc (xs : List Th) (x : Th) : wroteO (xs ++ [x]) = putB (wroteO xs) x.text := by simp [wroteO]
theorem fold_put : ∀ (xs : List Th) (s : ByteArray), s.size ≤ 1048576 → xs.foldl (fun o x => putB o x.text) (some s) = putB (some s) (ofL (allL xs))
  | [], s, h => by
    show some s = putB (some s) ⟨#[]⟩
    rw [putB_nil s h]
  | x :: r, s, h => by
    have e : ofL (allL (x :: r)) = x.text ++ ofL (allL r) := by
      unfold Th.text
      rw [← ofL_app]
      rfl
    rw [e, ← putB_two, List.foldl_cons]
    by_cases hz : s.size + x.text.size ≤ 1048576
    · rw [putB_yes s _ hz]
      exact fold_put r _ (by rw [ByteArray.size_append]; exact hz)
    · rw [putB_no s _ (by omega), putB_none]
      have : ∀ l : List Th, l.foldl (fun o x => putB o x.text) none = none := by
        intro l
        induction l with
        | nil => rfl
        | cons y q ih => exact ih
      exact this r
theorem wroteO_all (xs : List Th) (h : (allL xs).length ≤ 1048576) : wroteO xs = some (ofL (allL xs)) := by
  unfold wroteO
  rw [fold_put xs ⟨#[]⟩ (by show 0 ≤ _; omega), putB_yes _ _ (by rw [ofL_size]; show 0 + _ ≤ _; omega), nil_app]
theorem allL_len (n : Nat) : ∀ (xs : List Th), (∀ x ∈ xs, x.s.size ≤ n) → (allL xs).length ≤ xs.length * (17 + n)
  | [], _ => by simp [allL]
  | x :: r, h => by
    have h1 := allL_len n r (fun y hy => h y (by simp [hy]))
    have h2 := x.list_len
    have h3 := h x (by simp)
    show (x.list ++ allL r).length ≤ _
    rw [List.length_append, List.length_cons, Nat.add_mul]
    omega
def dS (o : Option ByteArray) : ByteArray := match o with | none => ⟨#[]⟩ | some s => s
def dE (o : Option ByteArray) : Int := match o with | none => 3 | some _ => 0
theorem doneV_eq (o : Option ByteArray) : doneV o = .tuple #[.string (dS o), .int .i64 (dE o)] := by cases o <;> rfl

set_option maxHeartbeats 2000000 in
theorem wrote_any (A : Option Addr) (c : Nat) (xs : List Th) (ok : AllOk xs) (hs : ∀ x ∈ xs, x.s.size ≤ 4611686018427387903) (hm : xs.length ≤ 9223372036854775807) (w : World) (hr : ThRow w w.heap.size A xs) :
    Calls Tryd.prog 25 #[.slice A xs.length c] w (Tells (.tuple #[.string (dS (wroteO xs)), .int .i64 (dE (wroteO xs))]) w.heap.size w) := by
  have B0 := Box.made w 27 #[.pointer none, .int .i64 0, .bool false]
  have L0 : Below w.heap.size w (w.alloc (.cells #[.pointer none, .int .i64 0, .bool false] 27)) := (Below.refl _ w).alloc (Nat.le_refl _) _
  have H0 := out_new B0
  obtain ⟨S, hS⟩ : ∃ S, dS (wroteO xs) = S := ⟨_, rfl⟩
  obtain ⟨E, hE⟩ : ∃ E, dE (wroteO xs) = E := ⟨_, rfl⟩
  rw [hS, hE]
  have HS := hideIt hS
  have HE := hideIt hE
  have HO := hideIt ok
  have HZ := hideIt hs
  have HM := hideIt hm
  clear hS hE ok hs
  go_enter Tryd.func25, Tryd.ntmps25
  go_upto_region 2 with fail
  change Code.wp _ _ _ _ (w.alloc (.cells #[.pointer none, .int .i64 0, .bool false] 27))
  generalize w.alloc (.cells #[.pointer none, .int .i64 0, .bool false] 27) = W at *
  go_wp2
  go_loopg [5] xs.length (fun gk i wr => ∃ k : Nat, k ≤ xs.length ∧ gk = xs.length - k ∧ i = .int .i64 k ∧ OutS wr w.heap.size (wroteO (xs.take k)) ∧ Below w.heap.size w wr)
  case atStart => exact ⟨0, Nat.zero_le _, rfl, rfl, H0, L0⟩
  case round =>
    clear H0 L0 B0
    obtain ⟨k, hk, hgk, rfl, hO, hL⟩ := hrel
    have HG := hideIt hgk
    clear hgk
    by_cases hlt : k < xs.length
    · obtain ⟨x, hx⟩ : ∃ x, xs[k]? = some x := ⟨_, List.getElem?_eq_getElem hlt⟩
      obtain ⟨ad, rfl, hb, hq⟩ := hr k x hx
      have hq2 : ThAt wr (ad.add (k * 5)) x := hq.keep (by rw [o8_block]; exact hL.block _ hb)
      obtain ⟨q0, q1, q2, q3, q4⟩ := hq2
      have hb2 : (ad.add (k * 5)).block < wr.heap.size := by rw [o8_block]; exact Nat.lt_of_lt_of_le hb hL.size
      have b1 : (k : Int) < (xs.length : Int) := by omega
      have hmem : x ∈ xs := List.mem_of_getElem? hx
      have cw := law_write x (HO.out x hmem) (HZ.out x hmem) w.heap.size _ wr hO
      have htk : xs.take (k + 1) = xs.take k ++ [x] := by
        rw [List.take_add_one, hx]; rfl
      rw [← wroteO_snoc, ← htk] at cw
      simp only [Th.val] at cw
      clear hx hr hq htk hmem
      go_wp2_with (first | (go_at_call 12; refine cw.mono ?_; rintro e w1 ⟨rfl, s1, k1⟩))
      go_roundg (xs.length - (k + 1))
      case measure => have := HG.out; omega
      case rel => exact ⟨k + 1, by omega, rfl, by go_num, s1, hL.trans (k1.below (fun i hi => by have : i = w.heap.size := hi; omega) hL.size)⟩
    · have e : k = xs.length := by omega
      subst e
      rw [List.take_length] at hO
      have cD := out_done w.heap.size _ wr hO
      rw [doneV_eq, HS.out, HE.out] at cD
      go_wp2_with (first | (go_at_call 14; refine cD.mono ?_; rintro e w1 ⟨rfl, rfl⟩))
      go_ret2
      exact ⟨rfl, hL⟩
theorem ok_num (k : Nat) (hk : k < 256) (h l : Int) (h1 : Word h) (h0 : Word l) : Th.Ok ⟨k, h, l, ⟨#[]⟩, 0⟩ := ⟨hk, h1, h0, by show 0 ≤ _; omega, by show (0 : Int) < _; omega, by show _ ≤ (0 : Int); omega⟩
theorem nil_small : (⟨#[]⟩ : ByteArray).size ≤ 2000 := by show 0 ≤ _; omega
theorem wroteO_one (x : Th) (h : x.text.size ≤ 1048576) : wroteO [x] = some x.text := by
  show putB (some ⟨#[]⟩) x.text = _
  rw [putB_yes _ _ (by show 0 + _ ≤ _; omega), nil_app]
theorem wrote_one (x : Th) (ok : x.Ok) (hs : x.s.size ≤ 2000) (b c : Nat) (w : World) (hb : Box w b 37 (thC x)) :
    Calls Tryd.prog 25 #[.slice (some ⟨b, 0, none⟩) 1 c] w (Tells (.tuple #[.string x.text, .int .i64 0]) w.heap.size w) := by
  have h := wrote_any (some ⟨b, 0, none⟩) c [x] (fun y hy => by rw [List.mem_singleton.1 hy]; exact ok) (fun y hy => by rw [List.mem_singleton.1 hy]; omega) (by show 1 ≤ _; omega) w (ThRow.one hb)
  rw [wroteO_one x (by have := x.text_size; omega)] at h
  exact h
end Go.Proofs.YtakhdhbalmcohaaDoor
