/-
  The law ShaHex: each byte has two digits, told by its own, and unlike texts have unlike digits, whatever the two texts.
  Conditions: block's table of constants holds what the program's text lays (tied by the card).
-/
import Derived.Test.YtlceniljnejjeaaDoorU5Awake
import Derived.Test.YtlceniljnejjeaaDoorW4Laid
namespace Go.Proofs.YtlceniljnejjeaaDoor
set_option linter.unusedVariables false
set_option linter.unusedSimpArgs false
open Go.ChangeShapes Go.WideShapes Go.ChangeAt Go.RowKit

theorem str_index (s : ByteArray) (n : Nat) (h : n < s.size) (w : World) : (Instr.index 9 (.string s) (.int .i64 n)).run Tryd.prog w = .ok (.int .u8 (s[n].toNat : Int)) w := by
  rw [run_index_string w _ _ _ _ Tryd.underlying9, dif_pos ⟨by omega, by omega⟩]
  rfl
theorem str_eq (a b : ByteArray) : (a.toList == b.toList) = decide (a = b) := by
  rw [ByteArray.toList_eq, ByteArray.toList_eq]
  by_cases h : a = b
  · subst h; simp
  · rw [decide_eq_false h]
    apply beq_false_of_ne
    intro e
    exact h (ByteArray.ext (Array.ext' e))

/-- The two digits of a byte. -/
def hx1 (b : UInt8) : UInt8 := UInt8.ofNat (hexd ((b.toNat : Int) / 16)).toNat
def hx2 (b : UInt8) : UInt8 := UInt8.ofNat (hexd ((b.toNat : Int) % 16)).toNat
def hexL (l : List UInt8) : List UInt8 := l.flatMap fun b => [hx1 b, hx2 b]
def unh (x : UInt8) : Nat := if x.toNat < 58 then x.toNat - 48 else x.toNat - 87
theorem hx_all : ∀ n, n < 256 → unh (hx1 (UInt8.ofNat n)) * 16 + unh (hx2 (UInt8.ofNat n)) = n := by decide +kernel
theorem hx_back (b : UInt8) : unh (hx1 b) * 16 + unh (hx2 b) = b.toNat := by
  have h := hx_all b.toNat b.toNat_lt
  rwa [UInt8.ofNat_toNat] at h
theorem hex_data (s : ByteArray) : (hexB s).data.toList = hexL s.data.toList := by
  show (hexI s.data.toList).map _ = _
  generalize s.data.toList = l
  induction l with
  | nil => rfl
  | cons b r ih =>
    unfold hexI hexL at ih ⊢
    rw [List.flatMap_cons, List.flatMap_cons, List.map_append, ih]
    rfl
theorem hexL_inj : ∀ l m : List UInt8, hexL l = hexL m → l = m
  | [], [], _ => rfl
  | [], b :: m, h => by simp [hexL] at h
  | a :: l, [], h => by simp [hexL] at h
  | a :: l, b :: m, h => by
    unfold hexL at h
    rw [List.flatMap_cons, List.flatMap_cons, List.cons_append, List.cons_append, List.cons_append, List.cons_append] at h
    injection h with h1 h
    injection h with h2 h
    have e := hexL_inj l m h
    have ea := hx_back a
    rw [h1, h2, hx_back b] at ea
    rw [e, UInt8.toNat_inj.1 ea]
theorem hexB_inj {s t : ByteArray} (h : hexB s = hexB t) : s = t := by
  have h2 : (hexB s).data.toList = (hexB t).data.toList := by rw [h]
  rw [hex_data, hex_data] at h2
  exact ByteArray.ext (Array.ext' (hexL_inj _ _ h2))
theorem hexB_app (s t : ByteArray) : hexB (s ++ t) = hexB s ++ hexB t := by
  apply ByteArray.ext
  apply Array.ext'
  rw [hex_data, ByteArray.data_append, Array.toList_append, ByteArray.data_append, Array.toList_append, hex_data, hex_data]
  simp [hexL]
theorem hexL_at : ∀ (l : List UInt8) (k : Nat), k < l.length → (hexL l).getD (2 * k) 0 = hx1 (l.getD k 0) ∧ (hexL l).getD (2 * k + 1) 0 = hx2 (l.getD k 0)
  | [], k, h => absurd h (by simp)
  | b :: r, 0, _ => ⟨rfl, rfl⟩
  | b :: r, k + 1, h => by
    have ih := hexL_at r k (by simpa using h)
    have e : 2 * (k + 1) = 2 * k + 1 + 1 := by omega
    unfold hexL at ih ⊢
    rw [List.flatMap_cons, e]
    exact ih
theorem hexd_bd (d : Nat) (hd : d < 16) : 0 ≤ hexd (d : Int) ∧ hexd (d : Int) < 256 := by unfold hexd; split <;> omega
theorem hx1_num (b : UInt8) : ((hx1 b).toNat : Int) = hexd ((b.toNat / 16 : Nat) : Int) := by
  have h := hexd_bd (b.toNat / 16) (by have := b.toNat_lt; omega)
  unfold hx1
  rw [show (b.toNat : Int) / 16 = ((b.toNat / 16 : Nat) : Int) by omega, UInt8.toNat_ofNat_of_lt' (by show _ < 256; omega)]
  omega
theorem hx2_num (b : UInt8) : ((hx2 b).toNat : Int) = hexd ((b.toNat % 16 : Nat) : Int) := by
  have h := hexd_bd (b.toNat % 16) (by omega)
  unfold hx2
  rw [show (b.toNat : Int) % 16 = ((b.toNat % 16 : Nat) : Int) by omega, UInt8.toNat_ofNat_of_lt' (by show _ < 256; omega)]
  omega
theorem hex_bytes (s X : ByteArray) (hX : hexB s = X) (k N1 N2 : Nat) (hk : k < s.size) (h1 : N1 < X.size) (h2 : N2 < X.size) (e1 : N1 = 2 * k) (e2 : N2 = 2 * k + 1) :
    (X[N1].toNat : Int) = hexd ((s[k].toNat / 16 : Nat) : Int) ∧ (X[N2].toNat : Int) = hexd ((s[k].toNat % 16 : Nat) : Int) := by
  have hl : k < s.data.toList.length := by simpa using hk
  obtain ⟨a1, a2⟩ := hexL_at s.data.toList k hl
  have g : s.data.toList.getD k 0 = s[k] := by rw [List.getD_eq_getElem?_getD, List.getElem?_eq_getElem hl]; rfl
  have g1 : (hexL s.data.toList).getD (2 * k) 0 = X[N1] := by
    rw [← hex_data, hX, ← e1, List.getD_eq_getElem?_getD, List.getElem?_eq_getElem (by simpa using h1)]; rfl
  have g2 : (hexL s.data.toList).getD (2 * k + 1) 0 = X[N2] := by
    rw [← hex_data, hX, ← e2, List.getD_eq_getElem?_getD, List.getElem?_eq_getElem (by simpa using h2)]; rfl
  rw [g1, g] at a1
  rw [g2, g] at a2
  exact ⟨by rw [a1]; exact hx1_num _, by rw [a2]; exact hx2_num _⟩

set_option maxHeartbeats 1000000 in
theorem value0 (w : World) : Calls Tryd.prog 40 #[.int .u8 48] w (Plain (.int .i64 0) w) := by
  go_enter Tryd.func40, Tryd.ntmps40
  go_wp2
  go_ret
  exact ⟨rfl, rfl⟩
set_option maxHeartbeats 1000000 in
theorem value1 (w : World) : Calls Tryd.prog 40 #[.int .u8 49] w (Plain (.int .i64 1) w) := by
  go_enter Tryd.func40, Tryd.ntmps40
  go_wp2
  go_ret
  exact ⟨rfl, rfl⟩
set_option maxHeartbeats 1000000 in
theorem value2 (w : World) : Calls Tryd.prog 40 #[.int .u8 50] w (Plain (.int .i64 2) w) := by
  go_enter Tryd.func40, Tryd.ntmps40
  go_wp2
  go_ret
  exact ⟨rfl, rfl⟩
set_option maxHeartbeats 1000000 in
theorem value3 (w : World) : Calls Tryd.prog 40 #[.int .u8 51] w (Plain (.int .i64 3) w) := by
  go_enter Tryd.func40, Tryd.ntmps40
  go_wp2
  go_ret
  exact ⟨rfl, rfl⟩
set_option maxHeartbeats 1000000 in
theorem value4 (w : World) : Calls Tryd.prog 40 #[.int .u8 52] w (Plain (.int .i64 4) w) := by
  go_enter Tryd.func40, Tryd.ntmps40
  go_wp2
  go_ret
  exact ⟨rfl, rfl⟩
set_option maxHeartbeats 1000000 in
theorem value5 (w : World) : Calls Tryd.prog 40 #[.int .u8 53] w (Plain (.int .i64 5) w) := by
  go_enter Tryd.func40, Tryd.ntmps40
  go_wp2
  go_ret
  exact ⟨rfl, rfl⟩
set_option maxHeartbeats 1000000 in
theorem value6 (w : World) : Calls Tryd.prog 40 #[.int .u8 54] w (Plain (.int .i64 6) w) := by
  go_enter Tryd.func40, Tryd.ntmps40
  go_wp2
  go_ret
  exact ⟨rfl, rfl⟩
set_option maxHeartbeats 1000000 in
theorem value7 (w : World) : Calls Tryd.prog 40 #[.int .u8 55] w (Plain (.int .i64 7) w) := by
  go_enter Tryd.func40, Tryd.ntmps40
  go_wp2
  go_ret
  exact ⟨rfl, rfl⟩
set_option maxHeartbeats 1000000 in
theorem value8 (w : World) : Calls Tryd.prog 40 #[.int .u8 56] w (Plain (.int .i64 8) w) := by
  go_enter Tryd.func40, Tryd.ntmps40
  go_wp2
  go_ret
  exact ⟨rfl, rfl⟩
set_option maxHeartbeats 1000000 in
theorem value9 (w : World) : Calls Tryd.prog 40 #[.int .u8 57] w (Plain (.int .i64 9) w) := by
  go_enter Tryd.func40, Tryd.ntmps40
  go_wp2
  go_ret
  exact ⟨rfl, rfl⟩
set_option maxHeartbeats 1000000 in
theorem value10 (w : World) : Calls Tryd.prog 40 #[.int .u8 97] w (Plain (.int .i64 10) w) := by
  go_enter Tryd.func40, Tryd.ntmps40
  go_wp2
  go_ret
  exact ⟨rfl, rfl⟩
set_option maxHeartbeats 1000000 in
theorem value11 (w : World) : Calls Tryd.prog 40 #[.int .u8 98] w (Plain (.int .i64 11) w) := by
  go_enter Tryd.func40, Tryd.ntmps40
  go_wp2
  go_ret
  exact ⟨rfl, rfl⟩
set_option maxHeartbeats 1000000 in
theorem value12 (w : World) : Calls Tryd.prog 40 #[.int .u8 99] w (Plain (.int .i64 12) w) := by
  go_enter Tryd.func40, Tryd.ntmps40
  go_wp2
  go_ret
  exact ⟨rfl, rfl⟩
set_option maxHeartbeats 1000000 in
theorem value13 (w : World) : Calls Tryd.prog 40 #[.int .u8 100] w (Plain (.int .i64 13) w) := by
  go_enter Tryd.func40, Tryd.ntmps40
  go_wp2
  go_ret
  exact ⟨rfl, rfl⟩
set_option maxHeartbeats 1000000 in
theorem value14 (w : World) : Calls Tryd.prog 40 #[.int .u8 101] w (Plain (.int .i64 14) w) := by
  go_enter Tryd.func40, Tryd.ntmps40
  go_wp2
  go_ret
  exact ⟨rfl, rfl⟩
set_option maxHeartbeats 1000000 in
theorem value15 (w : World) : Calls Tryd.prog 40 #[.int .u8 102] w (Plain (.int .i64 15) w) := by
  go_enter Tryd.func40, Tryd.ntmps40
  go_wp2
  go_ret
  exact ⟨rfl, rfl⟩
theorem value_any (d : Nat) (hd : d < 16) (w : World) : Calls Tryd.prog 40 #[.int .u8 (hexd d)] w (Plain (.int .i64 d) w) := by
  match d, hd with
  | 0, _ => exact value0 w
  | 1, _ => exact value1 w
  | 2, _ => exact value2 w
  | 3, _ => exact value3 w
  | 4, _ => exact value4 w
  | 5, _ => exact value5 w
  | 6, _ => exact value6 w
  | 7, _ => exact value7 w
  | 8, _ => exact value8 w
  | 9, _ => exact value9 w
  | 10, _ => exact value10 w
  | 11, _ => exact value11 w
  | 12, _ => exact value12 w
  | 13, _ => exact value13 w
  | 14, _ => exact value14 w
  | 15, _ => exact value15 w
  | n + 16, h => exact absurd h (by omega)

set_option maxHeartbeats 2000000 in
theorem hexlaw_long (s t : ByteArray) (h : 200 < s.size ∨ 200 < t.size) (hm1 : s.size ≤ 9223372036854775807) (hm2 : t.size ≤ 9223372036854775807) (w : World) (hT : Tab w) : Calls Tryd.prog 12 #[.string s, .string t] w (Tells (.bool true) w.heap.size w) := by
  have cA := awake5_any w hT
  by_cases h1 : (200 : Int) < (s.size : Int)
  · go_enter Tryd.func12, Tryd.ntmps12
    go_wp2_with (first | (go_at_call 39; refine cA.mono ?_; rintro e w1 ⟨rfl, b1⟩))
    go_ret
    exact ⟨rfl, b1⟩
  · have h2 : (200 : Int) < (t.size : Int) := by omega
    go_enter Tryd.func12, Tryd.ntmps12
    go_wp2_with (first | (go_at_call 39; refine cA.mono ?_; rintro e w1 ⟨rfl, b1⟩))
    go_ret
    exact ⟨rfl, b1⟩

set_option maxRecDepth 100000 in
set_option maxHeartbeats 4000000 in
theorem hexlaw_short (s t : ByteArray) (hs : s.size ≤ 200) (ht : t.size ≤ 200) (w : World) (hT : Tab w) : Calls Tryd.prog 12 #[.string s, .string t] w (Tells (.bool true) w.heap.size w) := by
  have cA := awake5_any w hT
  have h1 : ¬ ((200 : Int) < (s.size : Int)) := by omega
  have h2 : ¬ ((200 : Int) < (t.size : Int)) := by omega
  have cX := fun u => hex_any s (by omega) u
  have cY := fun u => hex_any t (by omega) u
  have cZ := fun u => hex_any (s ++ t) (by rw [ByteArray.size_append]; omega) u
  have hcat : ∀ u : World, (Op.stringOp .add s t).run Tryd.prog u = .ok (.string (s ++ t)) u := fun u => run_string_add_sum u _ _ (by omega)
  have hcat2 : ∀ u : World, (Op.stringOp .add (hexB s) (hexB t)).run Tryd.prog u = .ok (.string (hexB (s ++ t))) u := fun u => by
    rw [hexB_app]; exact run_string_add_sum u _ _ (by rw [hexB_size, hexB_size]; omega)
  have hXs := hexB_size s
  have hbytes := fun k N1 N2 hk h1 h2 e1 e2 => hex_bytes s (hexB s) rfl k N1 N2 hk h1 h2 e1 e2
  have q1 : ((hexB s).toList == (hexB t).toList) = decide (s = t) := by
    rw [str_eq]
    by_cases h : s = t
    · subst h; simp
    · rw [decide_eq_false h, decide_eq_false (fun e => h (hexB_inj e))]
  have q2 := str_eq s t
  obtain ⟨Z, hZ⟩ : ∃ Z, hexB (s ++ t) = Z := ⟨_, rfl⟩
  rw [hZ] at hcat2
  have cZ2 : ∀ u : World, Calls Tryd.prog 31 #[.string (s ++ t)] u (Tells (.string Z) u.heap.size u) := fun u => by rw [← hZ]; exact cZ u
  clear hZ cZ
  obtain ⟨ST, hST⟩ : ∃ ST, s ++ t = ST := ⟨_, rfl⟩
  rw [hST] at hcat cZ2
  generalize hexB t = Y at *
  generalize hexB s = X at *
  generalize decide (s = t) = q at *
  have HB := hideIt hbytes
  have HX := hideIt hXs
  have e2 : 2 * (s.size : Int) = (X.size : Int) := by omega
  clear hbytes hXs hST
  go_enter Tryd.func12, Tryd.ntmps12
  go_upto_region 6 with (first
    | (go_at_call 39; refine cA.mono ?_; rintro e w1 ⟨rfl, b1⟩)
    | (go_at_call_of 31 (Value.string s); refine (cX _).mono ?_; rintro e w2 ⟨rfl, b2⟩)
    | (go_at_call_of 31 (Value.string t); refine (cY _).mono ?_; rintro e w3 ⟨rfl, b3⟩))
  have H4 := chain (chain b1 b2) b3
  go_upto_region 8 with (first
    | (go_at_call 31; refine (cZ2 _).mono ?_; rintro e w4 ⟨rfl, b4⟩))
  have L4 := chain H4 b4
  clear cX cY cZ2 cA hcat hcat2 q1 q2 b1 b2 b3 b4 H4 e2 hT
  go_wp2
  go_loopg [7] s.size (fun gk i wr => ∃ k : Nat, k ≤ s.size ∧ gk = s.size - k ∧ i = .int .i64 k ∧ Below w.heap.size w wr)
  case atStart => exact ⟨0, by omega, rfl, rfl, L4⟩
  case round =>
    clear L4
    obtain ⟨k, hk, hgk, rfl, L⟩ := hrel
    have HG := hideIt hgk
    clear hgk
    by_cases hlt : k < s.size
    · obtain ⟨N1, hN1⟩ : ∃ N1, 2 * k = N1 := ⟨_, rfl⟩
      obtain ⟨N2, hN2⟩ : ∃ N2, N1 + 1 = N2 := ⟨_, rfl⟩
      have hXs := HX.out
      have l1 : N1 < X.size := by omega
      have l2 : N2 < X.size := by omega
      obtain ⟨g1, g2⟩ := HB.out k N1 N2 hlt l1 l2 hN1.symm (by omega)
      have hb := (s[k]).toNat_lt
      obtain ⟨d1, hd1⟩ : ∃ d1, (s[k]).toNat / 16 = d1 := ⟨_, rfl⟩
      obtain ⟨d2, hd2⟩ : ∃ d2, (s[k]).toNat % 16 = d2 := ⟨_, rfl⟩
      rw [hd1] at g1
      rw [hd2] at g2
      have v1 := fun u => value_any d1 (by omega) u
      have v2 := fun u => value_any d2 (by omega) u
      have n1 : ¬ ((d1 : Int) < 0) := by omega
      have n2 : ¬ ((d2 : Int) < 0) := by omega
      have s1 : (d1 : Int) * 16 + (d2 : Int) = ((s[k]).toNat : Int) := by omega
      obtain ⟨m, hm⟩ : ∃ m : Nat, d1 * 16 = m := ⟨_, rfl⟩
      have w16 : IntKind.i64.wrap ((d1 : Int) * 16) = (m : Int) := by rw [IntWalk.i64_in _ (by omega)]; omega
      have w17 : (d1 : Int) * 16 = (m : Int) := by omega
      have w18 : IntKind.i64.wrap ((m : Int) + (d2 : Int)) = ((s[k]).toNat : Int) := by rw [IntWalk.i64_in _ (by omega)]; omega
      have w19 : (m : Int) + (d2 : Int) = ((s[k]).toNat : Int) := by omega
      generalize hexd (d1 : Int) = y1 at *
      generalize hexd (d2 : Int) = y2 at *
      have x1 : IntKind.i64.wrap (2 * (k : Int)) = (N1 : Int) := by rw [IntWalk.i64_in _ (by omega)]; omega
      have x2 : 2 * (k : Int) = (N1 : Int) := by omega
      have x3 : IntKind.i64.wrap ((N1 : Int) + 1) = (N2 : Int) := by rw [IntWalk.i64_in _ (by omega)]; omega

      have x5 : IntKind.i64.wrap (N1 : Int) = (N1 : Int) := IntWalk.i64_in _ (by omega)
      have x6 : IntKind.i64.wrap (N2 : Int) = (N2 : Int) := IntWalk.i64_in _ (by omega)
      have x7 : IntKind.i64.wrap (m : Int) = (m : Int) := IntWalk.i64_in _ (by omega)
      have x8 : IntKind.i64.wrap ((s[k]).toNat : Int) = ((s[k]).toNat : Int) := IntWalk.i64_in _ (by omega)
      have i1 : (N1 : Int) < (X.size : Int) := by omega
      have i2 : (N2 : Int) < (X.size : Int) := by omega
      have b1 : (k : Int) < (s.size : Int) := by omega
      have j1 := fun u => str_index X N1 l1 u
      have j2 := fun u => str_index X N2 l2 u
      rw [g1] at j1
      rw [g2] at j2
      clear hN1 hN2 hXs hb hd1 hd2 hm s1 g1 g2 l1 l2
      go_wp2
      go_region_held3 (fun u => Below w.heap.size w u) (first | assumption | exact L.drew | fail)
        (first
          | (go_at_call_of 40 (Value.int .u8 y1); refine (v1 _).mono ?_; rintro e w' ⟨rfl, rfl⟩)
          | (go_at_call_of 40 (Value.int .u8 y2); refine (v2 _).mono ?_; rintro e w' ⟨rfl, rfl⟩)
          | fail)
      all_goals
        go_wp2
        go_roundg (s.size - (k + 1))
        case measure => have := HG.out; omega
        case rel => exact ⟨k + 1, by omega, rfl, by go_num, L.drew⟩
    · have e : k = s.size := by omega
      subst e
      clear HG
      go_wp2
      go_ret
      exact ⟨rfl, L⟩

theorem shaHex_core (H : Type) (enc : TypeId × Value → H) (W : World) (base : Nat) (args : Array Value) (ds gs : List (DataW H)) (before : List MemPlace)
    (hval : ∀ (j : Nat) t v, Tryd.f12.params[j]? = some t → args[j]? = some v → Value.okWide Tryd.prog W .any base t v)
    (hW : DataW.Whole enc Tryd.prog Tryd.f12.params.toList Rows.shaHexSpec.vars false W args.toList ds gs before) (hT : Tab W) :
    gs = [] ∧ ds.length = 2 ∧ Calls Tryd.prog 12 args W (Tells (.bool true) W.heap.size W) := by
  obtain ⟨p, q, hA, hV, -, -, -⟩ := hW
  obtain ⟨rfl, rfl⟩ := trodVars_none hV
  have hA : DataW.TrodAll enc Tryd.prog W 0 (fun _ => true) true Tryd.f12.params.toList args.toList ds p := hA
  rw [Tryd.params12] at hA hval
  obtain ⟨v0, vs0, d0, ds0, p0, ps0, e0, rfl, -, h0, hA⟩ := trodAll_cons hA
  obtain ⟨v1, vs1, d1, ds1, p1, ps1, rfl, rfl, -, h1, hA⟩ := trodAll_cons hA
  obtain ⟨rfl, rfl, rfl⟩ := trodAll_nil hA
  obtain rfl : args = #[v0, v1] := Array.ext' e0
  obtain ⟨s, rfl, rfl, rfl, hs⟩ := Go.ChangeMaps.open_string Tryd.underlying9 (hval 0 9 v0 rfl rfl) h0
  obtain ⟨t, rfl, rfl, rfl, ht⟩ := Go.ChangeMaps.open_string Tryd.underlying9 (hval 1 9 v1 rfl rfl) h1
  refine ⟨rfl, rfl, ?_⟩
  by_cases h : 200 < s.size ∨ 200 < t.size
  · exact hexlaw_long s t h hs ht W hT
  · exact hexlaw_short s t (by omega) (by omega) W hT

set_option maxRecDepth 100000 in
theorem shaHex_lifted (os : Os) (started : os.Started) (H : Type) (enc : TypeId × Value → H) :
    ReturnsInHanded {} Tryd.checked os 12 .any (fun w args => (Rows.shaHexSpec.pre enc Tryd.prog Tryd.f12 [] false w args ∧ laidMetH Tryd.prog laidK w) ∧ sizedMet enc Tryd.prog Tryd.f12 (OpenSpec.ofChange Rows.shaHexSpec) false w args)
      (Rows.shaHexSpec.post enc Tryd.prog Tryd.f12 false true false false) := by
  refine returnsInHanded_of_change_and (C := Tryd.checked) (X := fun w _ => laidMetH Tryd.prog laidK w) (fun _ _ _ hh h => h.of_heap hh) own_knob started (by kernel_rfl) Tryd.func12
    (ChangeSpec.witness_shaped (enc := enc) (C := Tryd.checked) (os := os) (X := fun w _ => laidMetH Tryd.prog laidK w) false (World.doorLaid Tryd.prog 14 os) #[.string ⟨#[]⟩, .string ⟨#[]⟩] 8 rfl (World.shaped_of_RefB (by kernel_rfl) (by kernel_rfl)) (by kernel_rfl) (by kernel_rfl) (by kernel_rfl) (door_met os _)) ?_
  intro W base args ds gs before hval0 hW _ _ hL _
  have hval : ∀ (j : Nat) t v, Tryd.f12.params[j]? = some t → args[j]? = some v → Value.okWide Tryd.prog W .any base t v := hval0
  obtain ⟨hg, hlen, hc⟩ := shaHex_core H enc W base args ds gs before hval hW (tab_of_laid hL)
  subst hg
  have hr : (Tryd.f12.params.toList.all fun t => Tryd.prog.readableRec t && decide (t < Tryd.prog.types.size)) = true := by kernel_rfl
  have hread : ∀ t ∈ Tryd.f12.params.toList, Tryd.prog.readableRec t = true ∧ t < Tryd.prog.types.size := fun t ht => by
    have h := List.all_eq_true.1 hr t ht
    rw [Bool.and_eq_true, decide_eq_true_eq] at h
    exact h
  refine hc.mono fun e W' ⟨he, hb⟩ => ?_
  subst he
  match ds, hlen with
  | [d0, d1], _ => exact ⟨_, rfl, law_post laid_out Tryd.underlying4 rfl hread rfl hW rfl rfl rfl hb⟩

theorem shaHex_holds : Rows.ShaHexSaid :=
  OpenClaim.holds_of_wide 12 Tryd.f12 rfl rfl rfl rfl rfl rfl rfl ⟨rfl, rfl, rfl, rfl, rfl⟩ rfl rfl rfl rfl rfl (by kernel_rfl) Tryd.func12 (by kernel_rfl)
    (of_decide_eq_true (by kernel_rfl)) (by unfold Func.isWrapper; first | (rw [if_pos (by decide +kernel)]; kernel_rfl) | (rw [if_neg (by decide +kernel)]; exact ⟨rfl, rfl⟩))
    (fun os started H enc _ => shaHex_lifted os started H enc)

theorem shaHex_card : Rows.ShaHexCardSaid :=
  Claim7.holds_tied_plain_at .later [] [.data] true _ false
    shaHex_holds (fun _ h => by cases h) (by kernel_rfl) (fun _ h => by cases h) shaHex_row_tie rfl ⟨rfl, rfl⟩ (by kernel_rfl) rfl
    (fun f fn hf hfn => by
      obtain rfl : f = 12 := Option.some.inj ((show Tryd.prog.funcNamed "paymaster/paymasterlaw05.ShaHex" = some 12 by kernel_rfl).symm.trans hf) |>.symm
      obtain rfl : fn = Tryd.f12 := (Option.some.inj (Tryd.func12.symm.trans hfn)).symm
      exact ⟨by kernel_rfl, fun j t ht => by
        have hm : t ∈ Tryd.f12.params.toList := by simpa using Array.mem_of_getElem? ht
        have hall : (Tryd.f12.params.toList.all fun u => !Tryd.prog.wantsStandIn u) = true := by kernel_rfl
        exact (show Tryd.prog.wantsStandIn t = false by simpa using List.all_eq_true.1 hall t hm)⟩)
    (by kernel_rfl)

end Go.Proofs.YtlceniljnejjeaaDoor
