/-
  Package row's remarked and Write, walked.
-/
import Derived.Test.YthindbmgnkohhaaDoorM10Row
import Derived.Test.YthindbmgnkohhaaDoorD10Write
import Derived.Test.YthindbmgnkohhaaDoorU9Join
import Derived.Test.YthindbmgnkohhaaDoorT10Row
namespace Go.Proofs.YthindbmgnkohhaaDoor
set_option linter.unusedVariables false
set_option linter.unusedSimpArgs false
set_option maxRecDepth 10000
open Go.RowKit Go.Lib Go.Shelf

set_option maxRecDepth 100000 in
set_option maxHeartbeats 2000000 in
theorem remarked_any (s : ByteArray) (hs : s.size ≤ 900000) (w : World) :
    Calls Tryd.prog 61 #[.string s] w (Tells (.tuple (if remOk s.data.toList = true then #[.string (bA (remL s.data.toList)), .int .i64 0] else #[.string ⟨#[]⟩, .int .i64 91])) w.heap.size w) := by
  obtain ⟨l, hl⟩ : ∃ l, s.data.toList = l := ⟨_, rfl⟩
  have hsl : l.length = s.size := by rw [← hl, ba_size]
  rw [hl]
  by_cases h0 : l = []
  · have e1 : remOk l = true := by rw [h0]; decide
    have e2 : remL l = [] := by rw [h0]; rfl
    rw [if_pos e1, e2]
    have es : s = ⟨#[]⟩ := ba_ext (by rw [hl, h0])
    subst es
    clear hl hsl h0 e1 e2
    go_enter Tryd.func61, Tryd.ntmps61
    go_wp2
    go_ret2
    exact ⟨rfl, Below.refl _ _⟩
  · have hne : (s.toList == []) = false := by rw [Lib.toList_data, hl]; simpa using h0
    have hne2 : s.toList.isEmpty = false := by rw [Lib.toList_data, hl]; cases l with | nil => exact absurd rfl h0 | cons a b => rfl
    obtain ⟨T, hT⟩ : ∃ T, bA (35 :: 32 :: l) = T := ⟨_, rfl⟩
    have hTs : T.size = l.length + 2 := by rw [← hT, bA_size]; rfl
    have hc1 : ∀ u : World, (Op.stringOp .add ⟨#[35, 32]⟩ s).run Tryd.prog u = .ok (.string T) u := fun u => by
      rw [run_string_add_sum u _ _ (by show 2 + s.size ≤ _; omega)]
      rw [← hT]
      congr 2
      all_goals (apply ba_ext; rw [ByteArray.data_append, Array.toList_append, hl, bA_list]; rfl)
    have cC := fun u => check_any T (by omega) u
    have cX := fun u => contains_any T u
    have hTl : T.data.toList = 35 :: 32 :: l := by rw [← hT, bA_list]
    have hr := rem_line l
    rw [hTl] at cC cX
    obtain ⟨F1, hF1⟩ : ∃ F1, (firstW (linesL (35 :: 32 :: l))).1 = F1 := ⟨_, rfl⟩
    obtain ⟨F2, hF2⟩ : ∃ F2, (firstW (linesL (35 :: 32 :: l))).2 = F2 := ⟨_, rfl⟩
    obtain ⟨X, hX⟩ : ∃ X, has10 (35 :: 32 :: l) = X := ⟨_, rfl⟩
    rw [hF1, hF2] at cC
    rw [hX] at cX
    rw [hF2, hX] at hr
    have eZ : remL l = 35 :: 32 :: l ++ [10] := if_neg h0
    obtain ⟨Z, hZ⟩ : ∃ Z, bA (remL l) = Z := ⟨_, rfl⟩
    have hc2 : ∀ u : World, (Op.stringOp .add T ⟨#[10]⟩).run Tryd.prog u = .ok (.string Z) u := fun u => by
      rw [run_string_add_sum u _ _ (by show T.size + 1 ≤ _; omega)]
      rw [← hZ, eZ]
      congr 2
      all_goals (apply ba_ext; rw [ByteArray.data_append, Array.toList_append, hTl, bA_list])
    rw [hZ]
    generalize remOk l = ok at *
    clear hl hsl h0 hTl hF1 hF2 hX eZ hT hZ
    by_cases hF : F2 = 0
    · subst hF
      cases X with
      | false =>
        obtain rfl : ok = true := by rw [hr]; rfl
        rw [if_pos rfl]
        clear hr
        go_enter Tryd.func61, Tryd.ntmps61
        go_wp2_with (first
          | (go_at_call 13; refine (cC _).mono ?_; rintro e w1 ⟨rfl, j1⟩)
          | (go_at_call 33; refine (cX _).mono ?_; rintro e w2 ⟨rfl, rfl⟩)
          | fail)
        go_ret2
        exact ⟨rfl, j1⟩
      | true =>
        obtain rfl : ok = false := by rw [hr]; rfl
        rw [if_neg (by decide)]
        clear hr
        go_enter Tryd.func61, Tryd.ntmps61
        go_wp2_with (first
          | (go_at_call 13; refine (cC _).mono ?_; rintro e w1 ⟨rfl, j1⟩)
          | (go_at_call 33; refine (cX _).mono ?_; rintro e w2 ⟨rfl, rfl⟩)
          | fail)
        go_ret2
        exact ⟨rfl, j1⟩
    · have hFi : ¬ ((F2 : Int) = 0) := by omega
      have hFb : ((F2 : Int) == 0) = false := beq_false_of_ne hFi
      obtain rfl : ok = false := by rw [hr, decide_eq_false hF]; rfl
      rw [if_neg (by decide)]
      clear hr
      go_enter Tryd.func61, Tryd.ntmps61
      go_wp2_with (first
        | (go_at_call 13; refine (cC _).mono ?_; rintro e w1 ⟨rfl, j1⟩)
        | (go_at_call 33; refine (cX _).mono ?_; rintro e w2 ⟨rfl, rfl⟩)
        | fail)
      go_ret2
      exact ⟨rfl, j1⟩

theorem BldAt.call {B g : Nat} {l : List UInt8} {w w' : World} (h : BldAt B g l w) (hb : Below w.heap.size w w') : BldAt B g l w' := by
  rcases h with ⟨h1, v, h2, h3, h4⟩ | ⟨h1, v, h2, h3, h4⟩
  · exact .inl ⟨h1, v, (hb.block g (Array.getElem?_eq_some_iff.1 h2).1).trans h2, own_below h3 hb, h4⟩
  · exact .inr ⟨h1, v, (hb.block g (Array.getElem?_eq_some_iff.1 h2).1).trans h2, own_below h3 hb, h4⟩
set_option maxRecDepth 100000 in
set_option maxHeartbeats 4000000 in
theorem rowwrite_any (A : Option Addr) (c : Nat) (xs : List Rw) (rem : ByteArray) (hm : xs.length ≤ 1000000000) (hx : AllRw xs) (hz : ∀ x ∈ xs, x.id.size ≤ 1000000) (hl : (rowsT xs).length ≤ 1000000) (hr : rem.size ≤ 900000) (w : World) (hR : RwRow w w.heap.size A xs) (hT : TabU w) :
    Calls Tryd.prog 38 #[.slice A xs.length c, .string rem] w (Tells (.tuple #[.string (wrR xs rem.data.toList).1, .int .i64 (wrR xs rem.data.toList).2]) w.heap.size w) := by
  obtain ⟨R, hRR⟩ : ∃ R, wrR xs rem.data.toList = R := ⟨_, rfl⟩
  rw [hRR]
  have HR := hideIt hRR
  have HL := hideIt hl
  have HZ := hideIt hz
  have HX := hideIt hx
  clear hRR hl hz hx
  have B0 := bld_new w
  have L0 := (Below.refl w.heap.size w).alloc (Nat.le_refl _) (.cells #[.pointer none, .slice none 0 0] 71)
  go_enter Tryd.func38, Tryd.ntmps38
  go_upto_region 2 with fail
  generalize World.alloc w _ = W at *
  go_wp2
  go_loopg [8, 9, 10, 15] xs.length (fun gk p t e x wr => ∃ k : Nat, k ≤ xs.length ∧ gk = xs.length - k ∧ x = .int .i64 k ∧ BldAt w.heap.size w.heap.size (rowsT (xs.take k)) wr ∧ Below w.heap.size w wr ∧ Hid (allId (xs.take k) = true))
  case atStart => exact ⟨0, by omega, rfl, rfl, B0, L0, rfl⟩
  case round =>
    clear B0 L0
    obtain ⟨k, hk, hgk, rfl, hB, hb, hid⟩ := hrel
    have HG := hideIt hgk
    clear hgk
    by_cases hlt : k < xs.length
    · obtain ⟨x, hxk⟩ : ∃ x, xs[k]? = some x := ⟨_, List.getElem?_eq_getElem hlt⟩
      have htk : xs.take (k + 1) = xs.take k ++ [x] := by rw [List.take_add_one, hxk]; rfl
      have hle := rowsT_take xs (k + 1)
      have hle2 := HL.out
      have hlti : (k : Int) < (xs.length : Int) := by omega
      obtain ⟨ad, rfl, hadl, p0, p1, p2⟩ := hR.call hb k x hxk
      have hadw : (ad.add (k * 3)).block < wr.heap.size := by rw [o10_block]; exact Nat.lt_of_lt_of_le hadl hb.size
      have hmem : x ∈ xs := List.mem_of_getElem? hxk
      have cT := fun u hu => rowtext_any x (HX.out x hmem) (HZ.out x hmem) u hu
      have hTw := hT.call hb
      cases hi : isId x.id.data.toList with
      | true =>
        have e1 : rowsT (xs.take (k + 1)) = rowsT (xs.take k) ++ (textR x ++ [10]) := by rw [htk, rowsT_snoc]
        have e2 : allId (xs.take (k + 1)) = true := by
          rw [htk]
          unfold allId
          rw [List.all_append]
          have := hid.out
          unfold allId at this
          rw [this]
          simp [hi]
        rw [e1] at hle
        have et : tolR x = (bA (textR x), 0) := if_pos hi
        rw [et] at cT
        have hsz : (textR x).length + 1 ≤ 1000000 := by
          simp only [List.length_append, List.length_singleton] at hle
          omega
        obtain ⟨T, hTT⟩ : ∃ T, bA (textR x) = T := ⟨_, rfl⟩
        have hTs : T.size = (textR x).length := by rw [← hTT, bA_size]
        obtain ⟨Z, hZZ⟩ : ∃ Z, bA (textR x ++ [10]) = Z := ⟨_, rfl⟩
        have hc1 : ∀ u : World, (Op.stringOp .add T ⟨#[10]⟩).run Tryd.prog u = .ok (.string Z) u := fun u => by
          rw [run_string_add_sum u _ _ (by show T.size + 1 ≤ _; omega)]
          rw [← hZZ, ← hTT]
          congr 2
          all_goals (apply ba_ext; rw [ByteArray.data_append, Array.toList_append, bA_list, bA_list])
        have hZs : Z.data.toList = textR x ++ [10] := by rw [← hZZ, bA_list]
        have hZn : Z.size = (textR x).length + 1 := by rw [← hZZ, bA_size, List.length_append]; rfl
        rw [hTT] at cT
        have cW := fun u hu => bld_write w.heap.size w.heap.size (rowsT (xs.take k)) Z u hu (by simp only [List.length_append, List.length_singleton] at hle; omega)
        rw [hZs] at cW
        have HE := hideIt e1
        have HI := hideIt e2
        clear e1 e2 hle hle2 htk hxk hmem et hsz hTT hZZ hZs hid HR
        have hbs := hb.size
        simp only [Rw.val] at cT
        obtain ⟨i, h, l⟩ := x
        simp only at p0 p1 p2 cT hi
        go_upto_region 5 with fail
        have H1 := (Has.start wr).add 50 (rwB i h l)
        have hB1 := hB.call H1.below
        have hb1 := hb.trans (H1.below.mono hb.size)
        have hT1 := hT.call hb1
        change Code.wp _ _ _ _ (wr.alloc (.cells (rwB i h l) 50))
        generalize wr.alloc (.cells (rwB i h l) 50) = W1 at *
        generalize wr.heap.size = g1 at *
        obtain ⟨y0, y1, y2, -, -, -, hin1⟩ := (H1.box 0).three
        go_upto_region 8 with (first
          | (go_at_call 37; refine (cT _ hT1).mono ?_; rintro e w2 ⟨rfl, j2⟩))
        have hB2 := hB1.call j2
        have hb2 := hb1.trans (j2.mono hb1.size)
        have hb2s := hb2.size
        go_wp2_with (first
          | (go_at_call 34; refine (cW _ hB2 hb2s).mono ?_; rintro e w3 ⟨⟨v, rfl⟩, hB3, j3⟩))
        go_roundg (xs.length - (k + 1))
        case measure => have := HG.out; omega
        case rel => exact ⟨k + 1, by omega, rfl, by go_num, by rw [HE.out]; exact hB3, hb2.trans j3, HI⟩
      | false =>
        have et : tolR x = (⟨#[]⟩, 101) := if_neg (by rw [hi]; decide)
        rw [et] at cT
        have ha : allId xs = false := by
          unfold allId
          rw [List.all_eq_false]
          exact ⟨x, hmem, by rw [hi]; decide⟩
        have e : R = (⟨#[]⟩, 101) := by
          rw [← HR.out]
          unfold wrR
          rw [ha, if_neg (by decide)]
        subst e
        clear hle hle2 htk hxk hmem et hid HR ha
        simp only [Rw.val] at cT
        obtain ⟨i, h, l⟩ := x
        simp only at p0 p1 p2 cT hi
        go_upto_region 5 with fail
        have H1 := (Has.start wr).add 50 (rwB i h l)
        have hB1 := hB.call H1.below
        have hb1 := hb.trans (H1.below.mono hb.size)
        have hT1 := hT.call hb1
        change Code.wp _ _ _ _ (wr.alloc (.cells (rwB i h l) 50))
        generalize wr.alloc (.cells (rwB i h l) 50) = W1 at *
        generalize wr.heap.size = g1 at *
        obtain ⟨y0, y1, y2, -, -, -, hin1⟩ := (H1.box 0).three
        go_wp2_with (first
          | (go_at_call 37; refine (cT _ hT1).mono ?_; rintro e w2 ⟨rfl, j2⟩))
        go_ret2
        exact ⟨rfl, hb1.trans (j2.mono hb1.size)⟩
    · have e : k = xs.length := by omega
      subst e
      rw [List.take_length] at hB hid
      have hid2 := hid.out
      have e : R = if remOk rem.data.toList = true then (bA (remL rem.data.toList ++ rowsT xs), 0) else (⟨#[]⟩, 91) := by
        rw [← HR.out]
        exact if_pos hid2
      have cM := fun u => remarked_any rem hr u
      have hle := HL.out
      cases hok : remOk rem.data.toList with
      | true =>
        rw [hok, if_pos rfl] at e
        simp only [hok, if_true] at cM
        obtain ⟨M, hM⟩ : ∃ M, bA (remL rem.data.toList) = M := ⟨_, rfl⟩
        have hMs : M.size ≤ rem.size + 3 := by
          rw [← hM, bA_size]
          unfold remL
          split
          · simp
          · simp only [List.length_append, List.length_cons, List.length_nil, ba_size]; omega
        obtain ⟨Q, hQ⟩ : ∃ Q, bA (rowsT xs) = Q := ⟨_, rfl⟩
        have hQs : Q.size ≤ 1000000 := by rw [← hQ, bA_size]; exact hle
        obtain ⟨Z, hZ⟩ : ∃ Z, bA (remL rem.data.toList ++ rowsT xs) = Z := ⟨_, rfl⟩
        have hcat : ∀ u : World, (Op.stringOp .add M Q).run Tryd.prog u = .ok (.string Z) u := fun u => by
          rw [run_string_add_sum u _ _ (by omega)]
          rw [← hZ, ← hM, ← hQ]
          congr 2
          all_goals (apply ba_ext; rw [ByteArray.data_append, Array.toList_append, bA_list, bA_list, bA_list])
        rw [hM] at cM
        rw [hZ] at e
        subst e
        have cS := fun u hu hs => bld_string w.heap.size w.heap.size (rowsT xs) u hu hs
        rw [hQ] at cS
        clear hid hid2 HR hle hM hQ hZ hok
        generalize rowsT xs = q at *
        go_wp2_with (first
          | (go_at_call 61; refine (cM _).mono ?_; rintro e w1 ⟨rfl, j1⟩; have hB1 := hB.call j1; have hb1 := hb.trans (j1.mono hb.size)
             have hb1s := hb1.size)
          | (go_at_call 35; refine (cS _ hB1 hb1s).mono ?_; rintro e w2 ⟨rfl, j2⟩))
        go_ret2
        exact ⟨rfl, hb1.trans j2⟩
      | false =>
        rw [hok, if_neg (by decide)] at e
        simp only [hok] at cM
        subst e
        clear hid hid2 HR hle hok
        have cM2 : ∀ u, Calls Tryd.prog 61 #[.string rem] u (Tells (.tuple #[.string ⟨#[]⟩, .int .i64 91]) u.heap.size u) := cM
        clear cM
        go_wp2_with (first
          | (go_at_call 61; refine (cM2 _).mono ?_; rintro e w1 ⟨rfl, j1⟩))
        go_ret2
        exact ⟨rfl, hb.trans (j1.mono hb.size)⟩
end Go.Proofs.YthindbmgnkohhaaDoor
