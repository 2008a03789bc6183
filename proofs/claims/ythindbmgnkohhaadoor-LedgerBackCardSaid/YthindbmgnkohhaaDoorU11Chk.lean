/-
  ledger.Check, Total and Export, walked.
-/
import Derived.Test.YthindbmgnkohhaaDoorU11Imp
import Derived.Test.YthindbmgnkohhaaDoorU10Write
import Derived.Test.YthindbmgnkohhaaDoorU1Sum
import Derived.Test.YthindbmgnkohhaaDoorD10Writ
namespace Go.Proofs.YthindbmgnkohhaaDoor
set_option linter.unusedVariables false
set_option linter.unusedSimpArgs false
set_option maxRecDepth 10000
open Go.RowKit Go.Sort

theorem chkF_id {most : Nat} {acc : List Rw} {n : Nat} {x : Rw} {r : List Rw} (h : isId (keyR x) = false) : chkF most acc n (x :: r) = (n + 1, 101) := by rw [chkF, if_pos h]
theorem chkF_on {most : Nat} {acc : List Rw} {n : Nat} {x : Rw} {r : List Rw} (h : isId (keyR x) = true) (hp : putL most acc x = 0) : chkF most acc n (x :: r) = chkF most (acc ++ [x]) (n + 1) r := by rw [chkF, if_neg (by rw [h]; decide), if_pos hp]
theorem chkF_off {most : Nat} {acc : List Rw} {n : Nat} {x : Rw} {r : List Rw} (h : isId (keyR x) = true) (hp : ¬ putL most acc x = 0) : chkF most acc n (x :: r) = (n + 1, putL most acc x) := by rw [chkF, if_neg (by rw [h]; decide), if_neg hp]
set_option maxRecDepth 100000 in
set_option maxHeartbeats 2000000 in
theorem check_height (A : Option Addr) (c : Nat) (n : Nat) (h : Int) (hh : ¬ (0 ≤ h ∧ h ≤ 10)) (w : World) : Calls Tryd.prog 15 #[.slice A n c, .int .i64 h] w (Tells (.tuple #[.int .i64 0, .int .i64 120]) w.heap.size w) := by
  have cM := fun u => mayHeight_any h u
  rw [decide_eq_false hh] at cM
  go_enter Tryd.func15, Tryd.ntmps15
  go_wp2_with (first
    | (go_at_call 23; refine (cM _).mono ?_; rintro e w1 ⟨rfl, rfl⟩)
    | fail)
  refine bodyPost_ret (results_tmp2 rfl _ _ _) rfl ?_
  exact ⟨rfl, Below.refl _ _⟩
set_option maxRecDepth 100000 in
set_option maxHeartbeats 8000000 in
theorem lcheck_any (A : Option Addr) (c : Nat) (xs : List Rw) (hm : xs.length ≤ 1000000) (hx : ∀ x ∈ xs, x.ok) (hz : ∀ x ∈ xs, x.id.size ≤ 1000000) (h : Nat) (hh : h ≤ 10) (w : World) (hT : TabU w) (hR : RwRow w w.heap.size A xs) :
    Calls Tryd.prog 15 #[.slice A xs.length c, .int .i64 (h : Int)] w (Tells (.tuple #[.int .i64 ((chkF (2 ^ h) [] 0 xs).1 : Int), .int .i64 ((chkF (2 ^ h) [] 0 xs).2 : Int)]) w.heap.size w) := by
  have cM := fun u => mayHeight_any (h : Int) u
  rw [decide_eq_true (show 0 ≤ (h : Int) ∧ (h : Int) ≤ 10 by omega)] at cM
  have cJ := fun u => judge_any h u
  obtain ⟨R, hRR⟩ : ∃ R, chkF (2 ^ h) [] 0 xs = R := ⟨_, rfl⟩
  rw [hRR]
  have HR := hideIt hRR
  clear hRR
  obtain ⟨n, hn⟩ : ∃ n, xs.length = n := ⟨_, rfl⟩
  rw [hn] at hm ⊢
  have HLN := hideIt hn
  clear hn
  go_enter Tryd.func15, Tryd.ntmps15
  go_upto_region 4 with (first
    | (go_at_call 23; refine (cM _).mono ?_; rintro e w1 ⟨rfl, rfl⟩)
    | (go_at_call 24; refine (cJ _).mono ?_; rintro e w1 ⟨ga, rfl, J1, j1⟩)
    | fail)
  clear cM cJ
  go_wp2
  go_loopg [18] n (fun gk i wr => ∃ k : Nat, k ≤ n ∧ n - k ≤ gk ∧ i = .int .i64 (k : Int) ∧ Hid (chkF (2 ^ h) (xs.take k) k (xs.drop k) = R) ∧ Hid (GoodL (2 ^ h) (xs.take k)) ∧ Judge wr w.heap.size h (xs.take k) ga ∧ Below w.heap.size w wr)
  case atStart => exact ⟨0, Nat.zero_le _, Nat.le_refl _, rfl, HR, good_nil _, J1, j1⟩
  case round =>
    obtain ⟨k, hkn, hgk, rfl, HI, HG, J, L⟩ := hrel
    have HGK := hideIt hgk
    clear hgk J1 j1
    by_cases hlt : k < n
    · have hlti : (k : Int) < (n : Int) := by omega
      obtain ⟨x, hx1⟩ : ∃ x, xs[k]? = some x := ⟨_, List.getElem?_eq_getElem (by have := HLN.out; omega)⟩
      obtain ⟨ad, rfl, had, p0, p1, p2⟩ := (hR.call L) k x hx1
      have p3 : (ad.add (k * 3)).block < wr.heap.size := by rw [o10_block]; exact Nat.lt_of_lt_of_le had L.size
      have hxo := hx x (List.mem_of_getElem? hx1)
      have hxz := hz x (List.mem_of_getElem? hx1)
      have hdrop : xs.drop k = x :: xs.drop (k + 1) := by
        obtain ⟨hl, he⟩ := List.getElem?_eq_some_iff.1 hx1
        rw [← he, List.getElem_cons_drop]
      have HI2 := HI.out
      rw [hdrop] at HI2
      have HI3 := hideIt HI2
      have HTK := hideIt (take_succ_at hx1)
      clear hdrop HI2 hx1
      have B1 := Box.made wr 50 #[.string x.id, .int .u64 x.h, .int .u64 x.l]
      have J := J.call (chainA (Below.refl _ _) (.cells #[.string x.id, .int .u64 x.h, .int .u64 x.l] 50))
      have L := chainA L (.cells #[.string x.id, .int .u64 x.h, .int .u64 x.l] 50)
      go_upto_region 7 with fail
      generalize wr.alloc (.cells #[.string x.id, .int .u64 x.h, .int .u64 x.l] 50) = W1 at *
      obtain ⟨q0, q1, q2, f0, f1, f2, hin⟩ := B1.three
      have hLs := L.size
      have cX := fun u hu => rowtext_any x hxo (by omega) u hu
      have wk : IntKind.i64.wrap ((k : Int) + 1) = ((k + 1 : Nat) : Int) := by rw [IntKind.wrap_i64]; omega
      cases hid : isId (keyR x) with
      | false =>
        have e0 : tolR x = (⟨#[]⟩, 101) := by unfold tolR; rw [show isId x.id.data.toList = false from hid]; rfl
        rw [e0] at cX
        have e1 := HI3.out
        rw [chkF_id hid] at e1
        have HE := hideIt e1
        simp only [Rw.val] at cX
        clear e0 e1 hid
        go_wp2_with (first
          | (go_at_call 37; refine (cX _ (hT.call L)).mono ?_; rintro e w3 ⟨rfl, j3⟩)
          | fail)
        refine bodyPost_ret (results_tmp2 rfl _ _ _) rfl ?_
        exact ⟨by rw [← HE.out]; rfl, L.trans (j3.mono hLs)⟩
      | true =>
        obtain ⟨T, hT1⟩ : ∃ T, (tolR x).1 = T := ⟨_, rfl⟩
        have e0 : (tolR x).2 = 0 := by unfold tolR; rw [show isId x.id.data.toList = true from hid]; rfl
        rw [hT1, e0] at cX
        have HID := hideIt hid
        clear e0 hT1 hid
        simp only [Rw.val] at cX
        go_upto_region 8 with (first
          | (go_at_call 37; refine (cX _ (hT.call L)).mono ?_; rintro e w3 ⟨rfl, j3⟩)
          | fail)
        have J := J.call j3
        have B3 := B1.call j3
        have L := L.trans (j3.mono hLs)
        have hLs := L.size
        obtain ⟨q0, q1, q2, f0, f1, f2, hin⟩ := B3.three
        obtain ⟨S, hS, cC⟩ := judge_call x hxo (by omega) w.heap.size h hh (xs.take k) ga HG.out w3 J
        obtain ⟨V, hV⟩ : ∃ V, putL (2 ^ h) (xs.take k) x = V := ⟨_, rfl⟩
        rw [hV] at cC
        simp only [Rw.val] at cC
        have HV := hideIt hV
        have HS := hideIt hS
        clear hV hS cX
        go_upto_region 10 with (first
          | (go_at_call 48; refine cC.mono ?_; rintro e w5 ⟨rfl, k5, J5⟩)
          | fail)
        have L5 := L.trans (k5.below (fun i hi => (HS.out i hi).1) hLs)
        by_cases hV0 : V = 0
        · have J5 := J5 hV0
          have HV0 := hideIt hV0
          have hvi : (V : Int) = 0 := by omega
          rw [hvi]
          clear hV0 hvi cC
          go_wp2
          go_roundg (n - (k + 1))
          case measure => have := HGK.out; omega
          case rel =>
            have hp : putL (2 ^ h) (xs.take k) x = 0 := HV.out.trans HV0.out
            have e1 := HI3.out
            rw [chkF_on HID.out hp, ← HTK.out] at e1
            have hg := HG.out.snoc hp
            rw [← HTK.out] at hg J5
            exact ⟨k + 1, by omega, Nat.le_refl _, by go_num, e1, hg, J5, L5⟩
        · have HV0 := hideIt hV0
          have hvi : ¬ ((V : Int) = 0) := by omega
          have hvb : ((V : Int) == 0) = false := beq_false_of_ne hvi
          clear hV0 cC J5
          go_wp2
          refine bodyPost_ret (results_tmp2 rfl _ _ _) rfl ?_
          have e1 := HI3.out
          rw [chkF_off HID.out (by rw [HV.out]; exact HV0.out), HV.out] at e1
          exact ⟨by rw [← e1]; rfl, L5⟩
    · have e : k = n := by omega
      subst e
      go_wp2
      refine bodyPost_ret (results_tmp2 rfl _ _ _) rfl ?_
      have e := HI.out
      rw [List.drop_eq_nil_of_le (by have := HLN.out; omega)] at e
      rw [← e]
      exact ⟨rfl, L⟩
theorem remOk_nil : remOk [] = true := by decide +kernel
theorem allId_perm {xs ys : List Rw} (h : Sd xs ys) : allId ys = allId xs := by
  rw [Bool.eq_iff_iff]
  unfold allId
  rw [List.all_eq_true, List.all_eq_true]
  have hp := h.2
  exact ⟨fun k x hx => k x (by rw [mem_fil, hp, ← mem_fil]; exact hx), fun k x hx => k x (by rw [mem_fil, ← hp, ← mem_fil]; exact hx)⟩
set_option maxRecDepth 100000 in
set_option maxHeartbeats 2000000 in
theorem export_any (A : Option Addr) (c : Nat) (xs ys : List Rw) (hs : Sd xs ys) (hm : xs.length ≤ 200) (hx : ∀ x ∈ xs, x.ok) (hz : ∀ x ∈ xs, x.id.size ≤ 200) (w : World) (hT : TabU w) (hR : RwRow w w.heap.size A xs) :
    Calls Tryd.prog 16 #[.slice A xs.length c] w (Tells (.tuple #[.string (wrR ys []).1, .int .i64 (wrR ys []).2]) w.heap.size w) := by
  have hyo : ∀ y ∈ ys, y.ok := fun y hy => hx y (by rw [mem_fil, ← hs.2, ← mem_fil]; exact hy)
  have hyz := hs.ids hz
  have hlen : ∀ zs : List Rw, Sd xs zs → zs.length = xs.length → ys.length = xs.length := fun zs h1 h2 => by rw [← h1.same hs, h2]
  have hwr : ys.length ≤ 200 → (rowsT ys).length ≤ 1000000 := fun h => by
    have a := rowsT_len ys 200 hyo hyz
    have b : ys.length * (200 + 41) ≤ 200 * 241 := Nat.mul_le_mul h (by omega)
    omega
  obtain ⟨n, hn⟩ : ∃ n, xs.length = n := ⟨_, rfl⟩
  have cS : Calls Tryd.prog 17 #[.slice A xs.length c] w fun e w' => ∃ A1, e = .returned (.slice A1 n n) ∧ RwRow w' w'.heap.size A1 ys ∧ ys.length = n ∧ Below w.heap.size w w' :=
    (rowsort3_any A c xs (by omega) (fun x h => by have := hz x h; omega) w hR).mono fun e w' h => by
      obtain ⟨v, zs, h1, h2, h3⟩ := h
      have e1 := h2.2.1
      have e2 := h2.1.same hs
      obtain ⟨A1, h4, h5⟩ := h2.row
      subst e2
      exact ⟨A1, by rw [h1, h4, e1, hn], h5, by rw [e1, hn], h3⟩
  have cW : ∀ (A1 : Option Addr) (u : World), ys.length = n → RwRow u u.heap.size A1 ys → TabU u → Calls Tryd.prog 38 #[.slice A1 n n, .string ⟨#[]⟩] u (Tells (.tuple #[.string (wrR ys []).1, .int .i64 (wrR ys []).2]) u.heap.size u) := fun A1 u h1 h2 h3 => by
    have h := rowwrite_any A1 n ys ⟨#[]⟩ (by omega) hyo (fun x h => by have := hyz x h; omega) (hwr (by omega)) (by decide) u h2 h3
    rw [h1] at h
    exact h
  obtain ⟨R, hRR⟩ : ∃ R, wrR ys [] = R := ⟨_, rfl⟩
  rw [hRR] at cW ⊢
  rw [hn] at cS ⊢
  clear hRR hn hwr hlen hyz hyo hs
  go_enter Tryd.func16, Tryd.ntmps16
  go_wp2_with (first
    | (go_at_call 17; refine cS.mono ?_; rintro e w1 ⟨A1, rfl, R1, l1, j1⟩)
    | (go_at_call 38; refine (cW A1 _ l1 R1 (hT.call j1)).mono ?_; rintro e w2 ⟨rfl, j2⟩)
    | fail)
  refine bodyPost_ret (results_tmp2 rfl _ _ _) rfl ?_
  exact ⟨rfl, chain j1 j2⟩
end Go.Proofs.YthindbmgnkohhaaDoor
