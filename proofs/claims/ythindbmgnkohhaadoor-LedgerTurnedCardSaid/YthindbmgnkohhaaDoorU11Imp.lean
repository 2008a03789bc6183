/-
  ledger.Import, walked: line by line, a judge behind.
-/
import Derived.Test.YthindbmgnkohhaaDoorM11Jdg
import Derived.Test.YthindbmgnkohhaaDoorU11Split
import Derived.Test.YthindbmgnkohhaaDoorU11Betw
import Derived.Test.YthindbmgnkohhaaDoorU10All
import Derived.Test.YthindbmgnkohhaaDoorD9Back
namespace Go.Proofs.YthindbmgnkohhaaDoor
set_option linter.unusedVariables false
set_option linter.unusedSimpArgs false
set_option maxRecDepth 10000
open Go.RowKit Go.Sort

theorem mayHeight_any (h : Int) (w : World) : Calls Tryd.prog 23 #[.int .i64 h] w (Plain (.bool (decide (0 ≤ h ∧ h ≤ 10))) w) := by
  by_cases h0 : 0 ≤ h
  · by_cases h1 : h ≤ 10
    · rw [decide_eq_true ⟨h0, h1⟩]
      have h2 : ¬ (10 < h) := by omega
      go_enter Tryd.func23, Tryd.ntmps23
      go_wp2
      go_ret
      exact ⟨rfl, rfl⟩
    · rw [decide_eq_false (fun k => h1 k.2)]
      have h2 : 10 < h := by omega
      go_enter Tryd.func23, Tryd.ntmps23
      go_wp2
      go_ret
      exact ⟨rfl, rfl⟩
  · rw [decide_eq_false (fun k => h0 k.1)]
    have h2 : h < 0 := by omega
    go_enter Tryd.func23, Tryd.ntmps23
    go_wp2
    go_ret
    exact ⟨rfl, rfl⟩
theorem linesL_one {x : List UInt8} (h : (10 : UInt8) ∉ x) : linesL x = [(1, x)] := by
  unfold linesL
  rw [split_none h]
  rfl
theorem split_long (l : List UInt8) : ∀ x ∈ splitL l, x.length ≤ l.length := by
  induction l with
  | nil => intro x hx; simp [splitL] at hx; subst hx; exact Nat.le_refl _
  | cons c r ih =>
    intro x hx
    unfold splitL at hx
    by_cases h : c = 10
    · rw [if_pos h] at hx
      rcases List.mem_cons.1 hx with rfl | hx
      · exact Nat.zero_le _
      · have := ih x hx
        simp
        omega
    · rw [if_neg h] at hx
      cases hs : splitL r with
      | nil =>
        rw [hs] at hx
        simp at hx
        subst hx
        simp
      | cons y z =>
        rw [hs] at hx
        rw [hs] at ih
        rcases List.mem_cons.1 hx with rfl | hx
        · have := ih y (by simp)
          simp
          omega
        · have := ih x (by simp [hx])
          simp
          omega
/-- What a line alone tells. -/
theorem rowline_any (x : List UInt8) (h : (10 : UInt8) ∉ x) (hs : x.length ≤ 1000000) (w : World) (hT : TabU w) :
    Calls Tryd.prog 19 #[.string (bA x)] w fun e W => ∃ v, e = .returned (.tuple #[v, .int .i64 (if (tell x).2.2 = 0 then 0 else 1 : Nat), .int .i64 ((tell x).2.2 : Nat)]) ∧ W.ownsRow w.heap.size 50 3 v (tellRows x).length (rowCs (tellRows x)) ∧ Below w.heap.size w W := by
  have c := rowall_any (bA x) (by simpa [bA, ByteArray.size] using hs) w hT
  rw [show (bA x).data.toList = x by simp [bA], linesL_one h] at c
  refine c.mono fun e W hp => ?_
  obtain ⟨v, h1, h2, h3⟩ := hp
  have e1 : errF [(1, x)] = ((if (tell x).2.2 = 0 then 0 else 1 : Nat), (tell x).2.2) := by
    unfold errF
    by_cases k : (tell x).2.2 = 0
    · rw [if_pos k, if_pos k, k]; rfl
    · rw [if_neg k, if_neg k]
  have e2 : allRows [(1, x)] = tellRows x := by
    unfold allRows
    rw [e1]
    by_cases k : (tell x).2.2 = 0
    · rw [if_pos k]; simp [rowsF, tellRows]
    · rw [if_neg k]; unfold tellRows; rw [tell_no k]; rfl
  rw [e1] at h1
  rw [e2] at h2
  exact ⟨v, h1, h2, h3⟩
set_option maxRecDepth 100000 in
set_option maxHeartbeats 2000000 in
theorem import_height (s : ByteArray) (h : Int) (hh : ¬ (0 ≤ h ∧ h ≤ 10)) (w : World) : Calls Tryd.prog 8 #[.string s, .int .i64 h] w (Tells (.tuple #[.slice none 0 0, .int .i64 0, .int .i64 120]) w.heap.size w) := by
  have cM := fun u => mayHeight_any h u
  rw [decide_eq_false hh] at cM
  go_enter Tryd.func8, Tryd.ntmps8
  go_wp2_with (first
    | (go_at_call 23; refine (cM _).mono ?_; rintro e w1 ⟨rfl, rfl⟩)
    | fail)
  go_ret3
  exact ⟨rfl, Below.refl _ _⟩
set_option maxRecDepth 100000 in
set_option maxHeartbeats 2000000 in
theorem import_long (s : ByteArray) (h : Int) (hh : 0 ≤ h ∧ h ≤ 10) (hs : 65536 < s.size) (w : World) : Calls Tryd.prog 8 #[.string s, .int .i64 h] w (Tells (.tuple #[.slice none 0 0, .int .i64 0, .int .i64 3]) w.heap.size w) := by
  have cM := fun u => mayHeight_any h u
  rw [decide_eq_true hh] at cM
  have hsi : (65536 : Int) < (s.size : Int) := by omega
  go_enter Tryd.func8, Tryd.ntmps8
  go_wp2_with (first
    | (go_at_call 23; refine (cM _).mono ?_; rintro e w1 ⟨rfl, rfl⟩)
    | fail)
  go_ret3
  exact ⟨rfl, Below.refl _ _⟩
/-- What is told of a text: the rows by Ids, or none. -/
def ImpV (w : World) (v : Value) (R : List Rw × Nat × Nat) : Prop := (R.2.2 = 0 ∧ ∃ ys, SortedAt w v R.1 ys) ∨ (R.2.2 ≠ 0 ∧ v = .slice none 0 0)
theorem ImpV.call {w w' : World} {v : Value} {R : List Rw × Nat × Nat} (h : ImpV w v R) (hb : Below w.heap.size w w') : ImpV w' v R := by
  rcases h with ⟨h1, ys, h2⟩ | h
  · exact .inl ⟨h1, ys, h2.call hb⟩
  · exact .inr h
theorem Box.strs {w : World} {g : Nat} {ls : List (List UInt8)} {cs : Array Value} (h : Box w g 9 cs) (hc : ((ls.map bA).map Value.string).toArray = cs) {k : Nat} {x : List UInt8} (hx : ls[k]? = some x) : w.cell? ⟨g, k, none⟩ = some (.string (bA x)) := by
  rw [h.read k, ← hc]
  simp [hx]
/-- What an append turns is a block of rows. -/
theorem own_turns {w w' : World} {b n : Nat} {v : Value} {xs : List Value} (O : w.ownsRow b 50 3 v n xs) (hg : w.grownBy w' v.ownBlock) : ∃ S : Nat → Prop, Off S w w' ∧ ∀ i, S i → ∃ cs fr, w.heap[i]? = some (.cells cs 50 fr) := by
  refine ⟨fun i => v.ownBlock = some i, (Off.refl _ _).grown hg (fun j hj => Or.inl hj), fun i hi => ?_⟩
  rcases O.2 with ⟨hv, -⟩ | ⟨g, cap, cur, hv, -, hh, -⟩
  · rw [hv] at hi; cases hi
  · rw [hv] at hi
    injection hi with hi
    have hi : g = i := hi
    subst hi
    exact ⟨cur, _, hh⟩
theorem strs_off {w w' : World} {g : Nat} {cs : Array Value} (Bs : Box w g 9 cs) {S : Nat → Prop} (k : Off S w w') (hS : ∀ i, S i → ∃ cs fr, w.heap[i]? = some (.cells cs 50 fr)) : Box w' g 9 cs :=
  k.box Bs (fun hi => by
    obtain ⟨cs2, fr, e⟩ := hS g hi
    unfold Box at Bs
    rw [e] at Bs
    injection Bs with Bs
    injection Bs with q1 q2 q3
    exact absurd q2 (by decide))
set_option maxRecDepth 100000 in
set_option maxHeartbeats 8000000 in
theorem import_any (s : ByteArray) (hs : s.size ≤ 65536) (h : Nat) (hh : h ≤ 10) (w : World) (hT : TabU w) :
    Calls Tryd.prog 8 #[.string s, .int .i64 (h : Int)] w fun e w' => ∃ v, e = .returned (.tuple #[v, .int .i64 ((impF (2 ^ h) [] 0 (splitL s.data.toList)).2.1 : Int), .int .i64 ((impF (2 ^ h) [] 0 (splitL s.data.toList)).2.2 : Int)]) ∧
      Below w.heap.size w w' ∧ ImpV w' v (impF (2 ^ h) [] 0 (splitL s.data.toList)) := by
  have cM := fun u => mayHeight_any (h : Int) u
  rw [decide_eq_true (show 0 ≤ (h : Int) ∧ (h : Int) ≤ 10 by omega)] at cM
  have cJ := fun u => judge_any h u
  have cS := fun u => split_any s (by omega) u
  obtain ⟨ls, hls⟩ : ∃ ls, splitL s.data.toList = ls := ⟨_, rfl⟩
  have hsl : ls.length ≤ 65537 := by
    have h1 := splitL_count s.data.toList
    have h2 : s.data.toList.count 10 ≤ s.data.toList.length := List.count_le_length
    have h3 : s.data.toList.length = s.size := (Lib.size_eq s).symm
    rw [hls] at h1
    omega
  have hno : ∀ x ∈ ls, (10 : UInt8) ∉ x := hls ▸ split_no s.data.toList
  have hxl : ∀ x ∈ ls, x.length ≤ 65536 := fun x hx => by
    have h1 := split_long s.data.toList x (hls ▸ hx)
    have h3 : s.data.toList.length = s.size := (Lib.size_eq s).symm
    omega
  obtain ⟨R, hR⟩ : ∃ R, impF (2 ^ h) [] 0 ls = R := ⟨_, rfl⟩
  obtain ⟨cs, hcs⟩ : ∃ cs, ((ls.map bA).map Value.string).toArray = cs := ⟨_, rfl⟩
  rw [hls] at cS ⊢
  rw [hcs] at cS
  have HCS := hideIt hcs
  clear hcs
  rw [hR]
  have HN := hideIt hno
  have HL := hideIt hxl
  have HR := hideIt hR
  clear hls hno hxl hR
  obtain ⟨n, hn⟩ : ∃ n, ls.length = n := ⟨_, rfl⟩
  rw [hn] at cS hsl
  have HLN := hideIt hn
  clear hn
  have hsi : ¬ (65536 : Int) < (s.size : Int) := by omega
  go_enter Tryd.func8, Tryd.ntmps8
  go_upto_region 7 with (first
    | (go_at_call 23; refine (cM _).mono ?_; rintro e w1 ⟨rfl, rfl⟩)
    | (go_at_call 24; refine (cJ _).mono ?_; rintro e w1 ⟨ga, rfl, J1, j1⟩)
    | fail)
  have B1 := Box.made w1 9 cs
  have J2 := J1.call (chainA (Below.refl _ _) (.cells cs 9))
  have L2 := chainA j1 (.cells cs 9)
  clear J1
  go_wp2_with (first
    | (go_at_call 25; refine (cS _).mono ?_; rintro e w2 ⟨rfl, rfl⟩)
    | fail)
  generalize w1.alloc (.cells cs 9) = W2 at *
  clear cM cJ cS
  obtain ⟨gs, hgs⟩ : ∃ gs, w1.heap.size = gs := ⟨_, rfl⟩
  rw [hgs] at B1 ⊢
  clear j1
  go_loopg [7, 29] n (fun gk v7 i wr => ∃ (k : Nat) (acc : List Rw), k ≤ n ∧ n - k ≤ gk ∧ i = .int .i64 (k : Int) ∧ Hid (impF (2 ^ h) acc k (ls.drop k) = R) ∧ Hid (GoodL (2 ^ h) acc) ∧ Hid (∀ x ∈ acc, x.ok ∧ x.id.size ≤ 65536) ∧ wr.ownsRow w.heap.size 50 3 v7 acc.length (rowCs acc) ∧
    Judge wr w.heap.size h acc ga ∧ Box wr gs 9 cs ∧ Below w.heap.size w wr)
  case atStart => exact ⟨0, [], Nat.zero_le _, Nat.le_refl _, rfl, HR, good_nil _, fun x hx => (by cases hx), World.ownsRow_nil _ _ _ _, J2, B1, L2⟩
  case round =>
    obtain ⟨k, acc, hkn, hgk, rfl, HI, HG, HA, O, J, Bs, L⟩ := hrel
    have HGK := hideIt hgk
    clear hgk J2 B1 L2
    by_cases hlt : k < n
    · have hlti : (k : Int) < (n : Int) := by omega
      obtain ⟨x, hx⟩ : ∃ x, ls[k]? = some x := ⟨_, List.getElem?_eq_getElem (by have := HLN.out; omega)⟩
      have hmx := List.mem_of_getElem? hx
      have p0 := Bs.strs HCS.out hx
      have p1 := Bs.inside
      have cA := fun u hu => rowline_any x (HN.out x hmx) (by have := HL.out x hmx; omega) u hu
      have HX := hideIt hx
      have hLs := L.size
      clear hx hmx
      go_upto_region 11 with (first
        | (go_at_call 19; refine (cA _ (hT.call L)).mono ?_; rintro e w3 ⟨v3, rfl, O3, j3⟩)
        | fail)
      obtain ⟨A3, c3, rfl, -, R3⟩ := rows_of_own O3
      have J := J.call j3
      have O := own_below O j3
      have Bs := Bs.call j3
      have L := L.trans (j3.mono hLs)
      have hLs := L.size
      have hdrop : ls.drop k = x :: ls.drop (k + 1) := by
        obtain ⟨hl, he⟩ := List.getElem?_eq_some_iff.1 HX.out
        rw [← he, List.getElem_cons_drop]
      have HI2 := HI.out
      rw [hdrop] at HI2
      have hacc : acc.length ≤ 1024 := Nat.le_trans HG.out.1 (Nat.pow_le_pow_right (by omega) hh : 2 ^ h ≤ 2 ^ 10)
      clear hdrop j3 cA p0 p1
      by_cases hE : (tell x).2.2 = 0
      · cases hB : (tell x).2.1 with
        | false =>
          have e1 : tellRows x = [] := by unfold tellRows; rw [hB]; rfl
          rw [impF_on (lineE_none hE hB), lineR_eq, e1, List.append_nil] at HI2
          have HI3 := hideIt HI2
          rw [e1] at O3 R3 ⊢
          rw [hE, if_pos rfl]
          clear HI2 e1 hE hB R3
          simp only [List.length_nil] at O3 ⊢
          obtain ⟨v', w', hr, O4, hg4⟩ := app_own w3 w.heap.size wr.heap.size u7 _ acc.length 0 acc [] O O3 (by omega) hLs (N := acc.length) rfl
          rw [List.append_nil] at O4
          obtain ⟨S4, k4, hS4⟩ := own_turns O hg4
          have J4 := J.keep k4 hS4
          have B4 := strs_off Bs k4 hS4
          have L4 := L.grown hg4 hLs (fun j hj => (O.lt j hj).1)
          clear hg4 hS4 k4
          go_wp2
          go_loopg [13, 42] 0 (fun g v13 vi wr2 => v13 = .int .i64 0 ∧ vi = .int .i64 0 ∧ wr2 = w3)
          case atStart => exact ⟨rfl, rfl, rfl⟩
          case round =>
            obtain ⟨rfl, rfl, hw⟩ := hrel
            subst hw
            go_wp2_with (first
              | (at_builtin; refine wpList_run rfl _ _ _ rfl _ _ rfl rfl v' w' hr ?_)
              | fail)
            go_roundg (n - (k + 1))
            case measure => have := HGK.out; omega
            case rel => exact ⟨k + 1, acc, by omega, Nat.le_refl _, by go_num, HI3, HG, HA, O4, J4, B4, L4⟩
        | true =>
          obtain ⟨y, hy⟩ : ∃ y, (tell x).1 = y := ⟨_, rfl⟩
          have e1 : tellRows x = [y] := by unfold tellRows; rw [hB, if_pos rfl, hy]
          have hyo : y.ok := hy ▸ tell_ok x
          have hyz : y.id.size ≤ 65536 := by
            have h1 := tell_size x
            have h2 := HL.out x (List.mem_of_getElem? HX.out)
            rw [hy] at h1
            omega
          have e2 := lineE_row (most := 2 ^ h) (acc := acc) hB
          rw [hy] at e2
          have e3 := lineR_eq acc x
          rw [e1] at e3
          rw [e1] at O3 R3 ⊢
          rw [hE, if_pos rfl]
          obtain ⟨V, hV⟩ : ∃ V, putL (2 ^ h) acc y = V := ⟨_, rfl⟩
          rw [hV] at e2
          have HV := hideIt hV
          have HE2 := hideIt e2
          have HE3 := hideIt e3
          have HI3 := hideIt HI2
          obtain ⟨ad, rfl, had, q0, q1, q2⟩ := R3 0 y rfl
          have q3 : (ad.add (0 * 3)).block < w3.heap.size := by rw [o10_block]; exact had
          have ea : ad.add (0 * 3) = ad := by simp [Addr.add]
          rw [ea] at q0 q1 q2 q3
          obtain ⟨S, hS, cC⟩ := judge_call y hyo (by omega) w.heap.size h hh acc ga HG.out (w3.alloc (.cells #[.string y.id, .int .u64 y.h, .int .u64 y.l] 50)) (J.call (chainA (Below.refl _ _) _))
          rw [hV] at cC
          simp only [Rw.val] at cC
          have HS := hideIt hS
          clear HI2 e1 e2 e3 hE hB hy hV hS
          simp only [List.length_cons, List.length_nil] at O3 R3 ⊢
          go_wp2
          go_loopg [13, 42] 1 (fun g v13 vi wr2 => (g = 1 ∧ v13 = .int .i64 0 ∧ vi = .int .i64 0 ∧ wr2 = w3) ∨ (g = 0 ∧ v13 = .int .i64 (V : Int) ∧ vi = .int .i64 1 ∧ wr2.ownsRow w.heap.size 50 3 u7 acc.length (rowCs acc) ∧
            wr2.ownsRow wr.heap.size 50 3 (.slice (some ad) 1 c3) 1 (rowCs [y]) ∧ Box wr2 gs 9 cs ∧ Below w.heap.size w wr2 ∧ (V = 0 → Judge wr2 w.heap.size h (acc ++ [y]) ga)))
          case atStart => exact .inl ⟨rfl, rfl, rfl, rfl⟩
          case round =>
            rcases hrel with ⟨hg, rfl, rfl, hw⟩ | ⟨hg, rfl, rfl, O5, O6, B5, L5, J5⟩
            · subst hw
              have HGG := hideIt hg
              clear hg
              have O4 := O.alloc (.cells #[.string y.id, .int .u64 y.h, .int .u64 y.l] 50)
              have O5 := O3.alloc (.cells #[.string y.id, .int .u64 y.h, .int .u64 y.l] 50)
              have B4 := Bs.past (.cells #[.string y.id, .int .u64 y.h, .int .u64 y.l] 50)
              have L4 := chainA L (.cells #[.string y.id, .int .u64 y.h, .int .u64 y.l] 50)
              have Y4 := Box.made wr 50 #[.string y.id, .int .u64 y.h, .int .u64 y.l]
              go_upto_region 14 with fail
              generalize wr.alloc (.cells #[.string y.id, .int .u64 y.h, .int .u64 y.l] 50) = W4 at *
              obtain ⟨y0, y1, y2, f0, f1, f2, hin⟩ := Y4.three
              go_wp2_with (first
                | (go_at_call 48; refine cC.mono ?_; rintro e w5 ⟨rfl, k5, J5⟩)
                | fail)
              have hS := HS.out
              go_roundg 0
              case measure => have := HGG.out; omega
              case rel =>
                refine .inr ⟨rfl, rfl, by go_num, own_off O4 k5 (fun i cs hi => ((hS i hi).2 cs).1), own_off O5 k5 (fun i cs hi => ((hS i hi).2 cs).1), k5.box B4 (fun hi => ((hS gs hi).2 cs).2 B4), L4.trans (k5.below (fun i hi => (hS i hi).1) L4.size), J5⟩
            · by_cases hV0 : V = 0
              · obtain ⟨v', w', hr, O7, hg7⟩ := app_own wr w.heap.size _ u7 _ acc.length 1 acc [y] O5 O6 (by omega) L5.size (N := acc.length + 1) rfl
                obtain ⟨S7, k7, hS7⟩ := own_turns O5 hg7
                have J7 := (J5 hV0).keep k7 hS7
                have B7 := strs_off B5 k7 hS7
                have L7 := L5.grown hg7 L5.size (fun j hj => (O5.lt j hj).1)
                have HV0 := hideIt hV0
                have hvi : (V : Int) = 0 := by omega
                rw [hvi]
                clear hg7 hS7 k7 J5 B5 hV0 hvi
                go_wp2_with (first
                  | (at_builtin; refine wpList_run rfl _ _ _ rfl _ _ rfl rfl v' w' hr ?_)
                  | fail)
                go_roundg (n - (k + 1))
                case measure => have := HGK.out; omega
                case rel =>
                  have e0 := HE2.out
                  rw [HV0.out] at e0
                  have hp : putL (2 ^ h) acc y = 0 := HV.out.trans HV0.out
                  refine ⟨k + 1, acc ++ [y], by omega, Nat.le_refl _, by go_num, ?_, HG.out.snoc hp, fun z hz => ?_, by rw [List.length_append]; exact O7, J7, B7, L7⟩
                  · have e1 := HI3.out
                    rw [impF_on e0, HE3.out] at e1
                    exact e1
                  · rcases List.mem_append.1 hz with hz | hz
                    · exact HA.out z hz
                    · rw [List.mem_singleton.1 hz]
                      exact ⟨hyo, hyz⟩
              · have HV0 := hideIt hV0
                have hvi : ¬ ((V : Int) = 0) := by omega
                have hvb : ((V : Int) == 0) = false := beq_false_of_ne hvi
                have wk : IntKind.i64.wrap ((k : Int) + 1) = ((k + 1 : Nat) : Int) := by rw [IntKind.wrap_i64]; omega
                clear hV0 J5
                go_wp2
                go_ret3
                have e := HI3.out
                rw [impF_off (by rw [HE2.out]; exact HV0.out), HE2.out] at e
                exact ⟨.slice none 0 0, by rw [← e]; rfl, L5, .inr ⟨by rw [← e]; exact HV0.out, rfl⟩⟩
      · have HI3 := HI2
        rw [impF_off (by rw [lineE_bad hE]; exact hE), lineE_bad hE] at HI3
        have HI4 := hideIt HI3
        have e1 : tellRows x = [] := by unfold tellRows; rw [tell_no hE]; rfl
        rw [e1] at O3 R3 ⊢
        rw [if_neg hE]
        obtain ⟨E, hEE⟩ : ∃ E, (tell x).2.2 = E := ⟨_, rfl⟩
        rw [hEE] at HI4 hE ⊢
        have hEi : ¬ ((E : Int) = 0) := by omega
        have hEb : ((E : Int) == 0) = false := beq_false_of_ne hEi
        have HEN := hideIt hE
        clear HI2 HI3 e1 hE hEE O3 R3
        simp only [List.length_nil]
        go_wp2
        go_loopg [13, 42] 0 (fun g v13 vi wr2 => v13 = .int .i64 (E : Int) ∧ vi = .int .i64 0 ∧ wr2 = w3)
        case atStart => exact ⟨rfl, rfl, rfl⟩
        case round =>
          obtain ⟨rfl, rfl, hw⟩ := hrel
          subst hw
          have wk : IntKind.i64.wrap ((k : Int) + 1) = ((k + 1 : Nat) : Int) := by rw [IntKind.wrap_i64]; omega
          go_wp2
          go_ret3
          have e := HI4.out
          exact ⟨.slice none 0 0, by rw [← e]; rfl, L, .inr ⟨by rw [← e]; exact HEN.out, rfl⟩⟩
    · have e : k = n := by omega
      subst e
      obtain ⟨A1, c1, rfl, -, R1⟩ := rows_of_own O
      have hacc : acc.length ≤ 1024 := Nat.le_trans HG.out.1 (Nat.pow_le_pow_right (by omega) hh : 2 ^ h ≤ 2 ^ 10)
      have cS := rowsort3_any A1 c1 acc (by omega) (fun x hx => by have := (HA.out x hx).2; omega) wr R1
      obtain ⟨m, hm⟩ : ∃ m, acc.length = m := ⟨_, rfl⟩
      rw [hm] at cS ⊢
      have hLs := L.size
      clear R1 O hm hacc
      go_wp2_with (first
        | (go_at_call 17; refine cS.mono ?_; rintro e w3 ⟨v3, ys, rfl, s3, j3⟩)
        | fail)
      go_ret3
      have e := HI.out
      rw [List.drop_eq_nil_of_le (by have := HLN.out; omega)] at e
      rw [← e]
      exact ⟨v3, rfl, L.trans (j3.mono hLs), .inl ⟨rfl, ys, s3⟩⟩
end Go.Proofs.YthindbmgnkohhaaDoor
