/-
  The law OctetBack: what was written is read, thing by thing, and then it is closed; with a byte more it isn't, nor of the first bytes, but not all; a text that is longer than is allowed spoils it.
  Conditions: none of its own; that utf8's two tables hold what their texts lay is the form's constant (tied by the card), and isn't used.
-/
import Derived.Test.YtakhdhbalmcohaaDoorT8Alike
import Derived.Test.YtakhdhbalmcohaaDoorW8Laid
import Derived.StillTailTactics
namespace Go.Proofs.YtakhdhbalmcohaaDoor
set_option linter.unusedVariables false
set_option linter.unusedSimpArgs false
set_option maxRecDepth 10000
open Go.ChangeShapes Go.WideShapes Go.ChangeAt Go.RowKit

/-- A thing, put into a block. -/
def put5 (u : World) (r : Nat) (X : Th) : World := ((((u.setCell ⟨r, 0, none⟩ (.int .u8 X.k)).setCell ⟨r, 1, none⟩ (.int .u64 X.h)).setCell ⟨r, 2, none⟩ (.int .u64 X.l)).setCell ⟨r, 3, none⟩ (.string X.s)).setCell ⟨r, 4, none⟩ (.int .i64 X.m)
theorem put5_off {S : Nat → Prop} {w u : World} {r : Nat} (h : Off S w u) (hr : S r) (X : Th) : Off S w (put5 u r X) :=
  ((((h.set_ (p := ⟨r, 0, none⟩) (Or.inl hr) _).set_ (p := ⟨r, 1, none⟩) (Or.inl hr) _).set_ (p := ⟨r, 2, none⟩) (Or.inl hr) _).set_ (p := ⟨r, 3, none⟩) (Or.inl hr) _).set_ (p := ⟨r, 4, none⟩) (Or.inl hr) _
theorem put5_box {u : World} {r : Nat} {t : TypeId} {c0 c1 c2 c3 c4 : Value} (hb : Box u r t #[c0, c1, c2, c3, c4]) (X : Th) : Box (put5 u r X) r t (thC X) := ((((hb.wrote 0 _).wrote 1 _).wrote 2 _).wrote 3 _).wrote 4 _
theorem ofL_cut8 (l : List UInt8) (n : Nat) (hn : n ≤ l.length) : (ofL l).extract 0 n = ofL (l.take n) := oext (by
  rw [ByteArray.data_extract, Array.toList_extract, List.extract_eq_take_drop, ofL_list, ofL_list]
  simp)
theorem allL_cons (x : Th) (r : List Th) : allL (x :: r) = x.list ++ allL r := rfl
theorem open_list (l : List UInt8) (h : l.length ≤ 4611686018427387903) (w : World) : Calls Tryd.prog 26 #[.string (ofL l)] w fun e w' => ∃ g, e = .returned (.pointer (some ⟨g, 0, none⟩)) ∧ w.heap.size ≤ g ∧ InS w' g (some l) ∧ Below w.heap.size w w' := by
  have c := in_open (ofL l) (by rw [ofL_size]; exact h) w
  rw [ofL_list] at c
  exact c
/-- What was cut off behind the first bytes; what is left of these. -/
def Cut (e : List UInt8) (sk : Option (List UInt8)) (l : List UInt8) : Prop := (e = [] → sk = some l) ∧ ∀ p, sk = some p → p ++ e = l
theorem Cut.step {e : List UInt8} {sk : Option (List UInt8)} {x : Th} {l : List UInt8} (h : Cut e sk (x.list ++ l)) (hx : rdK (x.k % 5) x.s.size (x.list ++ l) = some (x.vl, l)) : Cut e (nxt (opR x.k x.s.size sk)) l := by
  constructor
  · intro he
    rw [h.1 he]
    show nxt (rdK (x.k % 5) x.s.size (x.list ++ l)) = _
    rw [hx]; rfl
  · intro p hp
    cases sk with
    | none => cases hp
    | some q =>
      have hq := h.2 q rfl
      cases hr : rdK (x.k % 5) x.s.size q with
      | none =>
        have : nxt (rdK (x.k % 5) x.s.size q) = some p := hp
        rw [hr] at this
        cases this
      | some y =>
        obtain ⟨v, r⟩ := y
        have h1 : nxt (rdK (x.k % 5) x.s.size q) = some p := hp
        rw [hr] at h1
        injection h1 with h1
        have h1 : r = p := h1
        subst h1
        have h2 := rdK_more (Nat.mod_lt _ (by decide)) hr e
        rw [hq, hx] at h2
        injection h2 with h2
        injection h2 with _ h2
        exact h2.symm
theorem Cut.end_ {L : List UInt8} {cut : Nat} {sk : Option (List UInt8)} (hc : cut ≤ L.length) (h : Cut (L.drop cut) sk []) : (closeN sk == 0) = decide (cut = L.length) := by
  by_cases e : cut = L.length
  · rw [decide_eq_true e, h.1 (by rw [e, List.drop_length])]
    rfl
  · rw [decide_eq_false e]
    unfold closeN
    rw [if_neg]
    · rfl
    · intro hs
      have := h.2 [] hs
      rw [List.nil_append] at this
      have h2 := congrArg List.length this
      rw [List.length_drop, List.length_nil] at h2
      omega
theorem opR_wr (x : Th) (ok : x.Ok) (m : Nat) (hm : x.s.size ≤ m) (hz : x.s.size ≤ 2000) (r : List UInt8) : opR x.k m (some (x.list ++ r)) = some (x.vl, r) := rd_wr x ok.h ok.l m hm (by omega) r

set_option maxHeartbeats 2000000 in
theorem back8_long (A : Option Addr) (c : Nat) (xs : List Th) (sm : Int) (hm : xs.length ≤ 9223372036854775807) (hl : longT xs = true) (w : World) (hr : ThRow w w.heap.size A xs) :
    Calls Tryd.prog 5 #[.slice A xs.length c, .int .i64 sm] w (Tells (.bool true) w.heap.size w) := by
  have cw := fun u => awake8_any u
  have cL := fun u hu => long_things A c xs hm u hu
  rw [hl] at cL
  go_enter Tryd.func5, Tryd.ntmps5
  go_wp2_with (first
    | (go_at_call 24; refine (cw _).mono ?_; rintro e w1 ⟨rfl, j1⟩)
    | (go_at_call 8; refine (cL _ (fun i x hx => by obtain ⟨ad, e1, e2, e3⟩ := (hr.call j1) i x hx; exact ⟨ad, e1, Nat.lt_of_lt_of_le e2 j1.size, e3⟩)).mono ?_; rintro e w2 ⟨rfl, rfl⟩))
  go_ret
  exact ⟨rfl, j1⟩

set_option maxRecDepth 100000 in
set_option maxHeartbeats 16000000 in
theorem back8_short (A : Option Addr) (c : Nat) (xs : List Th) (sm : Int) (hl : longT xs = false) (ok : AllOk xs) (w : World) (hr : ThRow w w.heap.size A xs) :
    Calls Tryd.prog 5 #[.slice A xs.length c, .int .i64 sm] w (Tells (.bool true) w.heap.size w) := by
  obtain ⟨h200, hz⟩ := longT_no hl
  have cw := fun u => awake8_any u
  have cL := fun u hu => long_things A c xs (by omega) u hu
  rw [hl] at cL
  have cW := fun u hu => wrote_any A c xs ok (fun x hx => by have := hz x hx; omega) (by omega) u hu
  have hlen : (allL xs).length ≤ 403400 := by
    have h1 := allL_len 2000 xs hz
    have h2 : xs.length * (17 + 2000) ≤ 200 * (17 + 2000) := Nat.mul_le_mul_right _ h200
    omega
  rw [wroteO_all xs (by omega)] at cW
  simp only [dS, dE] at cW
  have up : ∀ u, Below w.heap.size w u → ThRow u u.heap.size A xs := fun u hu i x hx => by
    obtain ⟨ad, e1, e2, e3⟩ := (hr.call hu) i x hx
    exact ⟨ad, e1, Nat.lt_of_lt_of_le e2 hu.size, e3⟩
  obtain ⟨L, hL⟩ : ∃ L, allL xs = L := ⟨_, rfl⟩
  rw [hL] at cW hlen
  obtain ⟨n, hn⟩ : ∃ n, L.length = n := ⟨_, rfl⟩
  obtain ⟨U, hU, hU2⟩ : ∃ U : Nat, IntKind.u64.wrap sm = (U : Int) ∧ U < 18446744073709551616 := by
    refine ⟨(sm % 18446744073709551616).toNat, ?_, by omega⟩
    rw [IntKind.wrap_u64]; omega
  obtain ⟨N1, hN1⟩ : ∃ N1, n + 1 = N1 := ⟨_, rfl⟩
  obtain ⟨cut, hcut⟩ : ∃ cut, U % N1 = cut := ⟨_, rfl⟩
  have hcl : cut ≤ n := by
    have := Nat.mod_lt U (show N1 > 0 by omega)
    omega
  have k1 : IntKind.i64.wrap ((n : Int) + 1) = (N1 : Int) := by rw [show (n : Int) + 1 = (N1 : Int) by omega]; exact IntWalk.i64_in _ (by omega)
  have k2 : IntKind.u64.wrap (N1 : Int) = (N1 : Int) := by rw [IntKind.wrap_u64]; omega
  have k3 : (U : Int).tmod (N1 : Int) = (cut : Int) := by rw [Int.tmod_eq_emod_of_nonneg (by omega)]; omega
  have k3b : (U : Int) % (N1 : Int) = (cut : Int) := by omega
  have k4 : IntKind.i64.wrap (cut : Int) = (cut : Int) := IntWalk.i64_in _ (by omega)
  have k5 : ¬ ((N1 : Int) = 0) := by omega
  have k6 : (cut : Int) ≤ (n : Int) := by omega
  have k7 : ((N1 : Int) == 0) = false := by rw [beq_eq_false_iff_ne]; omega
  have hSz : (ofL L).size = n := by rw [ofL_size]; exact hn
  have hex : (ofL L).extract 0 cut = ofL (L.take cut) := (ofL_cut8 L cut (by omega))
  have hadd : ∀ u : World, (Op.stringOp .add (ofL L) ⟨#[0]⟩).run Tryd.prog u = .ok (.string (ofL (L ++ [0]))) u := fun u => by
    rw [ofL_app]
    exact run_string_add_sum u _ _ (by rw [hSz]; show _ + 1 ≤ _; omega)
  have cI := fun u => open_list L (by omega) u
  have cJ := fun u => open_list (L ++ [0]) (by rw [List.length_append]; show _ + 1 ≤ _; omega) u
  have cK := fun u => open_list (L.take cut) (by rw [List.length_take]; omega) u
  have HO := hideIt ok
  have HZ := hideIt hz
  have HL := hideIt hL
  have HN := hideIt hn
  have HC := hideIt hcl
  have HK := hideIt (show (L.take cut).length = cut by rw [List.length_take]; omega)
  obtain ⟨wb, hwb⟩ : ∃ wb, decide (cut = n) = wb := ⟨_, rfl⟩
  have hwi : ((cut : Int) == (n : Int)) = wb := by
    rw [← hwb]
    by_cases e : cut = n
    · rw [decide_eq_true e, e]; simp
    · rw [decide_eq_false e, beq_eq_false_iff_ne]; omega
  have HE := hideIt (show ∀ sk, Cut (L.drop cut) sk [] → (closeN sk == 0) = wb from fun sk h => by rw [← hwb, ← hn]; exact Cut.end_ (by omega) h)
  have H0 := hideIt (show Cut (L.drop cut) (some (L.take cut)) L from ⟨fun e => by
    have h2 := congrArg List.length e
    rw [List.length_drop, List.length_nil] at h2
    rw [List.take_of_length_le (by omega)], fun p e => by injection e with e; rw [← e, List.take_append_drop]⟩)
  generalize L.drop cut = E at *
  clear hwb
  generalize hS0 : ofL L = S at *
  generalize hS1 : ofL (L ++ [0]) = S1 at *
  generalize hS2 : ofL (L.take cut) = S2 at *
  clear hS0 hS1 hS2 hl ok hz hL hn hcl hcut hN1
  go_enter Tryd.func5, Tryd.ntmps5
  go_upto_region 8 with (first
    | (go_at_call 24; refine (cw _).mono ?_; rintro e w1 ⟨rfl, j1⟩)
    | (go_at_call 8; refine (cL _ (up _ j1)).mono ?_; rintro e w2 ⟨rfl, rfl⟩)
    | (go_at_call 25; refine (cW _ (up _ j1)).mono ?_; rintro e w3 ⟨rfl, j3⟩)
    | fail)
  have L3 := chain j1 j3
  clear cw cL cW j1 j3 up
  go_upto_region 9 with (first
    | (go_at_call_of 26 (Value.string S); refine (cI _).mono ?_; rintro e w4 ⟨gi, rfl, hgi, I4, j4⟩)
    | (go_at_call 26; refine (cJ _).mono ?_; rintro e w5 ⟨gj, rfl, hgj, J5, j5⟩)
    | fail)
  go_upto_region 10 with (first
    | (go_at_call 26; refine (cK _).mono ?_; rintro e w6 ⟨gq, rfl, hgq, K6, j6⟩)
    | fail)
  have L6 := chain (chain (chain L3 j4) j5) j6
  have I6 := (I4.call j5).call j6
  have J6 := J5.call j6
  have hij : gi ≠ gj := by have := I4.inside; omega
  have hik : gi ≠ gq := by have := (I4.call j5).inside; omega
  have hjk : gj ≠ gq := by have := J5.inside; omega
  have gi0 : w.heap.size ≤ gi := Nat.le_trans L3.size hgi
  have gj0 : w.heap.size ≤ gj := Nat.le_trans (chain L3 j4).size hgj
  have gk0 : w.heap.size ≤ gq := Nat.le_trans (chain (chain L3 j4) j5).size hgq
  have cRk := in_rest w6 gq _ K6
  rw [show restN (some (L.take cut)) = (L.take cut).length from rfl, HK.out] at cRk
  clear I4 J5 j4 j5 j6 hgi hgj hgq L3 cI cJ cK hex hadd k1 k2 k3 k3b k4 k5 k7 hU hU2
  go_wp2_with (first
    | (go_at_call 22; refine cRk.mono ?_; rintro e w7 ⟨rfl, rfl⟩))
  clear cRk
  have D0 : allL (xs.drop 0) = L := HL.out
  go_loopg [11] xs.length (fun gg i wr => ∃ (k : Nat) (sk : Option (List UInt8)), k ≤ xs.length ∧ gg = xs.length - k ∧ i = .int .i64 k ∧ InS wr gi (some (allL (xs.drop k))) ∧ InS wr gj (some (allL (xs.drop k) ++ [0])) ∧ InS wr gq sk ∧ Cut E sk (allL (xs.drop k)) ∧ Below w.heap.size w wr)
  case atStart => exact ⟨0, _, Nat.zero_le _, rfl, rfl, by rw [D0]; exact I6, by rw [D0]; exact J6, K6, by rw [D0]; exact H0.out, L6⟩
  case round =>
    clear I6 J6 K6 L6 D0
    obtain ⟨k, sk, hkl, hgk, rfl, I, J, K, hC, Lw⟩ := hrel
    have HG := hideIt hgk
    clear hgk
    by_cases hlt : k < xs.length
    · obtain ⟨x, hx⟩ : ∃ x, xs[k]? = some x := ⟨_, List.getElem?_eq_getElem hlt⟩
      obtain ⟨ad, rfl, hb, hq⟩ := hr k x hx
      have okx := HO.out x (List.mem_of_getElem? hx)
      have hsx := HZ.out x (List.mem_of_getElem? hx)
      have hdk : xs.drop k = x :: xs.drop (k + 1) := by
        rw [List.drop_eq_getElem_cons hlt]
        congr 1
        rw [List.getElem?_eq_getElem hlt] at hx
        exact Option.some.inj hx
      rw [hdk, allL_cons] at I J hC
      rw [List.append_assoc] at J
      have b1 : (k : Int) < (xs.length : Int) := by omega
      have hC2 := hC.step (opR_wr x okx x.s.size (Nat.le_refl _) hsx _)
      have r1 := opR_wr x okx x.s.size (Nat.le_refl _) hsx (allL (xs.drop (k + 1)))
      have r2 := opR_wr x okx 1099511627776 (by omega) hsx (allL (xs.drop (k + 1)) ++ [0])
      have keepT : ∀ u, Below w.heap.size w u → ThAt u (ad.add (k * 5)) x ∧ (ad.add (k * 5)).block < u.heap.size := fun u hu =>
        ⟨hq.keep (by rw [o8_block]; exact hu.block _ hb), by rw [o8_block]; exact Nat.lt_of_lt_of_le hb hu.size⟩
      obtain ⟨R, hR⟩ : ∃ R, allL (xs.drop (k + 1)) = R := ⟨_, rfl⟩
      have hRl : R.length ≤ 403400 := by
        rw [← hR]
        have h1 := allL_len 2000 (xs.drop (k + 1)) (fun y hy => HZ.out y (List.mem_of_mem_drop hy))
        have h2 : (xs.drop (k + 1)).length * (17 + 2000) ≤ 200 * (17 + 2000) := Nat.mul_le_mul_right _ (by rw [List.length_drop]; omega)
        omega
      rw [hR] at I J hC2 r1 r2
      have HC2 := hideIt hC2
      have HR := hideIt hR
      clear hC hC2 hx hdk hr hR
      have LD : Below w.heap.size w wr.drew := Lw.drew
      have c1 := fun u (hu : InS u gi (some (x.list ++ R))) => law_read x.k okx.k (x.s.size : Int) (by omega) gi _ u hu
      rw [show ((x.s.size : Int)).toNat = x.s.size by omega, r1] at c1
      rw [show vOf (some (x.vl, R)) = x.vl from rfl, show nxt (some (x.vl, R)) = some R from rfl] at c1
      have J1 : InS wr.drew gj (some (x.list ++ (R ++ [0]))) := J
      have K1 : InS wr.drew gq sk := K
      have I1 : InS wr.drew gi (some (x.list ++ R)) := I
      have I1a := fun o => I1.call (w' := wr.drew.alloc o) ((Below.refl _ _).alloc (Nat.le_refl _) _)
      have OW : Off (fun i => w.heap.size ≤ i) w wr.drew := Off.of LD
      have hgiS : ∀ i, One gi i → (w.heap.size ≤ i) ∨ w.heap.size ≤ i := fun i hi => Or.inl (by have : i = gi := hi; omega)
      have keepO : ∀ u, Off (fun i => w.heap.size ≤ i) w u → (u.cell? (ad.add (k * 5)) = some (.int .u8 x.k) ∧ u.cell? ⟨(ad.add (k * 5)).block, (ad.add (k * 5)).off + 3, none⟩ = some (.string x.s)) ∧ (ad.add (k * 5)).block < u.heap.size := fun u hu =>
        have h1 := keepT u (hu.below (fun i hi => hi) (Nat.le_refl _))
        ⟨⟨h1.1.1, h1.1.2.2.2.1⟩, h1.2⟩
      have hgn : ¬ One gi wr.drew.heap.size := fun e => by
        have h1 : wr.heap.size = gi := e
        have h2 := I.inside
        omega
      obtain ⟨X, hX⟩ : ∃ X, rdTh x.k (x.s.size : Int) x.vl = X := ⟨_, rfl⟩
      rw [hX] at c1
      simp only [Th.val] at c1
      obtain ⟨⟨q0, q3⟩, q5⟩ := keepO _ OW
      go_upto_region 16 with fail
      go_cut [12] from 65 to 77 (fun s wx => ∃ xb, s = .pointer (some ⟨xb, 0, none⟩) ∧ wr.heap.size ≤ xb ∧ Box wx xb 37 (thC X) ∧ InS wx gi (some R) ∧ InS wx gj (some (x.list ++ (R ++ [0]))) ∧ InS wx gq sk ∧ Below w.heap.size w wx)
      case first =>
        go_region_held3 (fun u => (u.cell? (ad.add (k * 5)) = some (.int .u8 x.k) ∧ u.cell? ⟨(ad.add (k * 5)).block, (ad.add (k * 5)).off + 3, none⟩ = some (.string x.s)) ∧ (ad.add (k * 5)).block < u.heap.size)
          (first
            | exact keepO _ OW
            | exact keepO _ (OW.past _)
            | exact keepO _ (OW.behind k1 hgiS)
            | exact keepO _ ((OW.past _).behind k1 hgiS)
            | exact keepO _ ((OW.behind k1 hgiS).past _)
            | exact keepO _ (put5_off ((OW.past _).behind k1 hgiS) Lw.size X)
            | exact keepO _ (put5_off ((OW.behind k1 hgiS).past _) (Nat.le_trans Lw.size k1.size) X)
            | fail)
          (first
            | (go_at_call 27; refine (c1 _ (by first | exact I1 | exact I1a _)).mono ?_; rintro e w1 ⟨rfl, s1, k1⟩
               try (have BZ : Box w1 wr.heap.size 37 z5 := k1.box (Box.made wr.drew 37 z5) hgn
                    obtain ⟨v0, v1, v2, v3, v4⟩ := BZ.z5c
                    obtain ⟨g0, g1, g2, g3, g4⟩ := BZ.frees
                    have v5 := BZ.inside))
            | fail)
        all_goals go_wp2_with fail
        all_goals go_meet
        all_goals first
          | exact ⟨w1.heap.size, rfl, k1.size, Box.made _ _ _, s1.call ((Below.refl _ _).alloc (Nat.le_refl _) _), (J1.other I1 k1 (Ne.symm hij)).call ((Below.refl _ _).alloc (Nat.le_refl _) _), (K1.other I1 k1 (Ne.symm hik)).call ((Below.refl _ _).alloc (Nat.le_refl _) _),
              chainA (LD.trans (k1.below (fun i hi => by have : i = gi := hi; omega) LD.size)) _⟩
          | (have J3 := (J1.call (w' := wr.drew.alloc (.cells z5 37)) ((Below.refl _ _).alloc (Nat.le_refl _) _)).other (I1a _) k1 (Ne.symm hij)
             have K3 := (K1.call (w' := wr.drew.alloc (.cells z5 37)) ((Below.refl _ _).alloc (Nat.le_refl _) _)).other (I1a _) k1 (Ne.symm hik)
             have kz : Off (One wr.heap.size) w1 (put5 w1 wr.heap.size X) := put5_off (S := One wr.heap.size) (Off.refl _ _) (show One wr.heap.size wr.heap.size from rfl) X
             have hi := I.inside
             have hj := J.inside
             have hk := K.inside
             have L3 := (chainA LD (.cells z5 37)).trans (k1.below (fun i hi => by have : i = gi := hi; omega) (chainA LD (.cells z5 37)).size)
             exact ⟨wr.heap.size, rfl, Nat.le_refl _, put5_box BZ X, s1.off kz BZ (by omega) (by decide), J3.off kz BZ (by omega) (by decide), K3.off kz BZ (by omega) (by decide),
               L3.trans (kz.below (fun i hi => by have h1 : i = wr.heap.size := hi; have := Lw.size; omega) L3.size)⟩)
      case rest =>
        obtain ⟨xb, rfl, hxb, B2, I2, J2, K2, L2⟩ := hcut
        have xi : xb ≠ gi := by have := I.inside; omega
        have xj : xb ≠ gj := by have := J.inside; omega
        have xk : xb ≠ gq := by have := K.inside; omega
        clear q0 q3 q5 I J K I1 J1 K1 I1a OW keepO c1
        obtain ⟨⟨q0, q1, q2, q3, q4⟩, q5⟩ := keepT _ L2
        have c2 := law_read x.k okx.k 1099511627776 (by decide) gj _ wc J2
        rw [show (1099511627776 : Int).toNat = 1099511627776 from rfl, r2] at c2
        rw [show vOf (some (x.vl, R ++ [0])) = x.vl from rfl, show nxt (some (x.vl, R ++ [0])) = some (R ++ [0]) from rfl] at c2
        obtain ⟨Y, hY⟩ : ∃ Y, rdTh x.k 1099511627776 x.vl = Y := ⟨_, rfl⟩
        rw [hY] at c2
        simp only [Th.val] at c2
        go_upto_region 18 with (first
          | (go_at_call 27; refine c2.mono ?_; rintro e w8 ⟨rfl, J8, k8⟩)
          | fail)
        have L8 := L2.trans (k8.below (fun i hi => by have : i = gj := hi; omega) L2.size)
        have B8 := (k8.box B2 (fun e => xj e)).past (.cells (thC Y) 37)
        have Y9 := Box.made w8 37 (thC Y)
        have aY : Below w8.heap.size w8 (w8.alloc (.cells (thC Y) 37)) := (Below.refl _ _).alloc (Nat.le_refl _) _
        have I9 := (I2.other J2 k8 hij).call aY
        have K9 := (K2.other J2 k8 (Ne.symm hjk)).call aY
        have J9 := J8.call aY
        have L9 := chain L8 aY
        have yi : w8.heap.size ≠ gi := by have := (I2.other J2 k8 hij).inside; omega
        have yj : w8.heap.size ≠ gj := by have := J8.inside; omega
        have yk : w8.heap.size ≠ gq := by have := (K2.other J2 k8 (Ne.symm hjk)).inside; omega
        change Code.wp _ _ _ _ (w8.alloc (.cells (thC Y) 37))
        clear q0 q1 q2 q3 q4 q5 B2 I2 J2 K2 L2 L8 k8 J8 c2
        generalize w8.alloc (.cells (thC Y) 37) = W9 at *
        generalize w8.heap.size = yb at *
        obtain ⟨⟨q0, q1, q2, q3, q4⟩, q5⟩ := keepT _ L9
        have c3 := law_read x.k okx.k (x.s.size : Int) (by omega) gq _ W9.drew (show InS W9.drew gq sk from K9)
        rw [show ((x.s.size : Int)).toNat = x.s.size by omega] at c3
        go_still_tail 12, (by kernel_rfl)
        change wpList _ _ _ _ _ W9.drew
        go_upto_region 19 with (first
          | (go_at_call 27; refine c3.mono ?_; rintro e w10 ⟨rfl, K10, k10⟩)
          | fail)
        have L9d : Below w.heap.size w W9.drew := L9.drew
        have I10 : InS w10 gi (some R) := InS.other (show InS W9.drew gi (some R) from I9) (show InS W9.drew gq sk from K9) k10 hik
        have J10 : InS w10 gj (some (R ++ [0])) := InS.other (show InS W9.drew gj (some (R ++ [0])) from J9) (show InS W9.drew gq sk from K9) k10 hjk
        have B10 := k10.box (show Box W9.drew xb 37 (thC X) from B8) (fun e => xk e)
        have Y10 := k10.box (show Box W9.drew yb 37 (thC Y) from Y9) (fun e => yk e)
        have L10 := L9d.trans (k10.below (fun i hi => by have : i = gq := hi; omega) L9d.size)
        clear q0 q1 q2 q3 q4 q5 c3 k10 B8 Y9 I9 J9 K9 L9 L9d
        have cA1 := fun u => law_alike x okx (x.s.size : Int) u
        have cA2 := fun u => law_alike x okx 1099511627776 u
        simp only [hX, Th.val] at cA1
        simp only [hY, Th.val] at cA2
        obtain ⟨m, hm⟩ : ∃ m, R.length = m := ⟨_, rfl⟩
        obtain ⟨M, hM⟩ : ∃ M, m + 1 = M := ⟨_, rfl⟩
        have cS := fun u hu => in_spoilt u gi (some R) hu
        have cRi := fun u hu => in_rest u gi (some R) hu
        have cRj := fun u hu => in_rest u gj (some (R ++ [0])) hu
        rw [show (some R).isNone = false from rfl] at cS
        rw [show restN (some R) = m from hm] at cRi
        rw [show restN (some (R ++ [0])) = M by show (R ++ [0]).length = M; rw [List.length_append, hm]; exact hM] at cRj
        have hMw : IntKind.i64.wrap ((m : Int) + 1) = (M : Int) := by rw [show (m : Int) + 1 = (M : Int) by omega]; exact IntWalk.i64_in _ (by omega)
        have hMM : ((M : Int) == (M : Int)) = true := by simp
        have hMN : ((M : Int) != (M : Int)) = false := by simp
        clear hX hY hm hM
        have keepQ : ∀ u, Below w10.heap.size w10 u → (((u.cell? ⟨xb, 0, none⟩ = some (.int .u8 X.k) ∧ u.cell? ⟨xb, 1, none⟩ = some (.int .u64 X.h) ∧ u.cell? ⟨xb, 2, none⟩ = some (.int .u64 X.l) ∧ u.cell? ⟨xb, 3, none⟩ = some (.string X.s) ∧ u.cell? ⟨xb, 4, none⟩ = some (.int .i64 X.m)) ∧
            (u.cell? ⟨yb, 0, none⟩ = some (.int .u8 Y.k) ∧ u.cell? ⟨yb, 1, none⟩ = some (.int .u64 Y.h) ∧ u.cell? ⟨yb, 2, none⟩ = some (.int .u64 Y.l) ∧ u.cell? ⟨yb, 3, none⟩ = some (.string Y.s) ∧ u.cell? ⟨yb, 4, none⟩ = some (.int .i64 Y.m)) ∧
            (u.cell? (ad.add (k * 5)) = some (.int .u8 x.k) ∧ u.cell? ⟨(ad.add (k * 5)).block, (ad.add (k * 5)).off + 1, none⟩ = some (.int .u64 x.h) ∧ u.cell? ⟨(ad.add (k * 5)).block, (ad.add (k * 5)).off + 2, none⟩ = some (.int .u64 x.l) ∧
              u.cell? ⟨(ad.add (k * 5)).block, (ad.add (k * 5)).off + 3, none⟩ = some (.string x.s) ∧ u.cell? ⟨(ad.add (k * 5)).block, (ad.add (k * 5)).off + 4, none⟩ = some (.int .i64 x.m))) ∧
            xb < u.heap.size ∧ yb < u.heap.size ∧ (ad.add (k * 5)).block < u.heap.size) := fun u hu =>
          have b1 := B10.call hu
          have b2 := Y10.call hu
          have t := keepT u (L10.trans (hu.mono L10.size))
          ⟨⟨⟨b1.read 0, b1.read 1, b1.read 2, b1.read 3, b1.read 4⟩, ⟨b2.read 0, b2.read 1, b2.read 2, b2.read 3, b2.read 4⟩, t.1⟩, b1.inside, b2.inside, t.2⟩
        go_cut [125] from 59 to 171 (fun s wx => s = .bool false ∧ Below w10.heap.size w10 wx)
        case first =>
          go_region_held3 (fun u => Below w10.heap.size w10 u ∧ (((u.cell? ⟨xb, 0, none⟩ = some (.int .u8 X.k) ∧ u.cell? ⟨xb, 1, none⟩ = some (.int .u64 X.h) ∧ u.cell? ⟨xb, 2, none⟩ = some (.int .u64 X.l) ∧ u.cell? ⟨xb, 3, none⟩ = some (.string X.s) ∧ u.cell? ⟨xb, 4, none⟩ = some (.int .i64 X.m)) ∧
            (u.cell? ⟨yb, 0, none⟩ = some (.int .u8 Y.k) ∧ u.cell? ⟨yb, 1, none⟩ = some (.int .u64 Y.h) ∧ u.cell? ⟨yb, 2, none⟩ = some (.int .u64 Y.l) ∧ u.cell? ⟨yb, 3, none⟩ = some (.string Y.s) ∧ u.cell? ⟨yb, 4, none⟩ = some (.int .i64 Y.m)) ∧
            (u.cell? (ad.add (k * 5)) = some (.int .u8 x.k) ∧ u.cell? ⟨(ad.add (k * 5)).block, (ad.add (k * 5)).off + 1, none⟩ = some (.int .u64 x.h) ∧ u.cell? ⟨(ad.add (k * 5)).block, (ad.add (k * 5)).off + 2, none⟩ = some (.int .u64 x.l) ∧
              u.cell? ⟨(ad.add (k * 5)).block, (ad.add (k * 5)).off + 3, none⟩ = some (.string x.s) ∧ u.cell? ⟨(ad.add (k * 5)).block, (ad.add (k * 5)).off + 4, none⟩ = some (.int .i64 x.m))) ∧
            xb < u.heap.size ∧ yb < u.heap.size ∧ (ad.add (k * 5)).block < u.heap.size))
            (first
              | exact keep_first (by assumption) (by assumption) (fun hb => ⟨hb, keepQ _ hb⟩)
              | exact ⟨(Below.refl _ _).drew, keepQ _ (Below.refl _ _).drew⟩
              | with_reducible assumption
              | fail)
            (first
              | (go_at_call 28; (with_reducible refine (cA1 _).mono ?_); rintro e w11 ⟨rfl, j11⟩)
              | (go_at_call 28; (with_reducible refine (cA2 _).mono ?_); rintro e w12 ⟨rfl, j12⟩)
              | (go_at_call 21; refine (cS _ (I10.call (And.left (by assumption)))).mono ?_; rintro e w13 ⟨rfl, rfl⟩)
              | (go_at_call_of 22 (Value.pointer (some ⟨gj, 0, none⟩)); refine (cRj _ (J10.call (And.left (by assumption)))).mono ?_; rintro e w14 ⟨rfl, rfl⟩)
              | (go_at_call 22; refine (cRi _ (I10.call (And.left (by assumption)))).mono ?_; rintro e w15 ⟨rfl, rfl⟩)
              | fail)
          all_goals go_wp2_with fail
          all_goals go_meet
          all_goals exact ⟨rfl, And.left (by assumption)⟩
        case rest =>
          obtain ⟨rfl, Z10⟩ := hcut
          have L11 := L10.trans (Z10.mono L10.size)
          obtain ⟨⟨q0, q1, q2, q3, q4⟩, q5⟩ := keepT _ L11
          clear cA1 cA2 cS cRi cRj keepQ hMw hMM hMN B10 Y10 r1 r2
          by_cases h4 : x.k % 5 = 4
          · obtain ⟨m1, m2, m3⟩ := kind_five x.k 4 h4 okx.k
            by_cases hs : 0 < x.s.size
            · have s1 : (0 : Int) < (x.s.size : Int) := by omega
              have cW := fun b c u hb => wrote_one x okx hsx b c u hb
              have cO := fun u => open_list x.list (by have := x.list_len; omega) u
              have e4 : opT (x.s.size - 1) (some x.list) = none := by
                show rText (x.s.size - 1) x.list = none
                rw [x.list_4 h4]
                have h1 := rText_long (x.s.size - 1) x.s.data.toList [] (by rw [osize]; omega) (by rw [osize]; omega)
                rw [List.append_nil, osize] at h1
                exact h1
              rw [show thC x = #[.int .u8 x.k, .int .u64 x.h, .int .u64 x.l, .string x.s, .int .i64 x.m] from rfl, show x.text = ofL x.list from rfl] at cW
              have HOP := hideIt e4
              clear e4
              obtain ⟨z, hz⟩ : ∃ z, x.s.size - 1 = z := ⟨_, rfl⟩
              rw [hz] at HOP
              have hzw : IntKind.i64.wrap ((x.s.size : Int) - 1) = (z : Int) := by rw [show (x.s.size : Int) - 1 = (z : Int) by omega]; exact IntWalk.i64_in _ (by omega)
              have hz2 : (z : Int) < 9223372036854775808 := by omega
              clear hz
              generalize x.list = XL at *
              generalize ofL XL = XT at *
              go_upto_region 23 with (first
                | (go_at_call 25; refine (cW _ _ _ (Box.made _ _ _)).mono ?_; rintro e w12 ⟨rfl, j12⟩)
                | fail)
              have Z12 := chain (chainA Z10 _) j12
              clear q0 q1 q2 q3 q4 q5 j12 cW
              go_upto_region 24 with (first
                | (go_at_call 26; refine (cO _).mono ?_; rintro e w13 ⟨g2, rfl, hg2, I13, j13⟩)
                | fail)
              have Z13 := chain Z12 j13
              have L13 := L10.trans (Z13.mono L10.size)
              obtain ⟨⟨q0, q1, q2, q3, q4⟩, q5⟩ := keepT _ L13
              have cT := in_text_any (z : Int) hz2 w13 g2 (some XL) I13
              rw [show ((z : Int)).toNat = z by omega, HOP.out, show tV none = ⟨#[]⟩ from rfl, show nxt (none : Option (List UInt8 × List UInt8)) = none from rfl] at cT
              have cS2 := fun u hu => in_spoilt u g2 none hu
              rw [show (none : Option (List UInt8)).isNone = true from rfl] at cS2
              go_wp2_with (first
                | (go_at_call 20; refine cT.mono ?_; rintro e w14 ⟨rfl, I14, k14⟩)
                | (go_at_call 21; refine (cS2 _ I14).mono ?_; rintro e w15 ⟨rfl, rfl⟩))
              have Z14 := Z13.trans (k14.below (fun i hi => by have h1 : i = g2 := hi; have := Z12.size; omega) Z13.size)
              go_roundg (xs.length - (k + 1))
              case measure => have := HG.out; omega
              case rel => exact ⟨k + 1, _, by omega, rfl, by go_num, by rw [HR.out]; exact I10.call Z14, by rw [HR.out]; exact J10.call Z14, K10.call Z14, by rw [HR.out]; exact HC2.out, L10.trans (Z14.mono L10.size)⟩
            · have s1 : ¬ ((0 : Int) < (x.s.size : Int)) := by omega
              go_wp2_with fail
              go_roundg (xs.length - (k + 1))
              case measure => have := HG.out; omega
              case rel => exact ⟨k + 1, _, by omega, rfl, by go_num, by rw [HR.out]; exact I10.call Z10, by rw [HR.out]; exact J10.call Z10, K10.call Z10, by rw [HR.out]; exact HC2.out, L11⟩
          · obtain ⟨j, hj⟩ : ∃ j, x.k % 5 = j := ⟨_, rfl⟩
            obtain ⟨m1, m2, m3⟩ := kind_five x.k j hj okx.k
            have m4 : ((j : Int) == 4) = false := by rw [beq_eq_false_iff_ne]; omega
            have m5 : ¬ ((j : Int) = 4) := by omega
            clear h4 hj
            go_wp2_with fail
            go_roundg (xs.length - (k + 1))
            case measure => have := HG.out; omega
            case rel => exact ⟨k + 1, _, by omega, rfl, by go_num, by rw [HR.out]; exact I10.call Z10, by rw [HR.out]; exact J10.call Z10, K10.call Z10, by rw [HR.out]; exact HC2.out, L11⟩
    · have e : k = xs.length := by omega
      subst e
      rw [List.drop_length] at I J hC
      have c1 := in_close wr gi _ I
      have c2 := in_close wr gj _ J
      have c3 := in_spoilt wr gj _ J
      have c4 := in_close wr gq _ K
      have hkk := HE.out sk hC
      rw [show closeN (some (allL [])) = 0 from rfl] at c1
      rw [show closeN (some (allL [] ++ [0])) = 80 from rfl] at c2
      rw [show (some (allL [] ++ [0])).isNone = false from rfl] at c3
      generalize closeN sk = ck at *
      have hbb : (wb == wb) = true := by cases wb <;> rfl
      clear hr hC I J K
      go_wp2_with (first
        | (go_at_call_of 23 (Value.pointer (some ⟨gi, 0, none⟩)); refine c1.mono ?_; rintro e w8 ⟨rfl, rfl⟩)
        | (go_at_call_of 23 (Value.pointer (some ⟨gj, 0, none⟩)); refine c2.mono ?_; rintro e w8 ⟨rfl, rfl⟩)
        | (go_at_call 21; refine c3.mono ?_; rintro e w8 ⟨rfl, rfl⟩)
        | (go_at_call 23; refine c4.mono ?_; rintro e w8 ⟨rfl, rfl⟩))
      go_ret
      exact ⟨rfl, Lw⟩

theorem octetBack_core (H : Type) (enc : TypeId × Value → H) (W : World) (base : Nat) (args : Array Value) (ds gs : List (DataW H)) (before : List MemPlace)
    (hval : ∀ (j : Nat) t v, Tryd.f5.params[j]? = some t → args[j]? = some v → Value.okWide Tryd.prog W .any base t v)
    (hW : DataW.Whole enc Tryd.prog Tryd.f5.params.toList Rows.octetBackSpec.vars false W args.toList ds gs before) (hT : True) :
    gs = [] ∧ ds.length = 2 ∧ Calls Tryd.prog 5 args W (Tells (.bool true) W.heap.size W) := by
  obtain ⟨p, q, hA, hV, -, -, -⟩ := hW
  obtain ⟨rfl, rfl⟩ := trodVars_none hV
  have hA : DataW.TrodAll enc Tryd.prog W 0 (fun _ => true) true Tryd.f5.params.toList args.toList ds p := hA
  rw [Tryd.params5] at hA hval
  obtain ⟨v0, vs0, d0, ds0, p0, ps0, e0, rfl, -, h0, hA⟩ := trodAll_cons hA
  obtain ⟨v1, vs1, d1, ds1, p1, ps1, rfl, rfl, -, h1, hA⟩ := trodAll_cons hA
  obtain ⟨rfl, rfl, rfl⟩ := trodAll_nil hA
  obtain rfl : args = #[v0, v1] := Array.ext' e0
  obtain ⟨A, c, xs, rfl, hm, ok, hr⟩ := open_things (hval 0 22 v0 rfl rfl) h0
  obtain ⟨sm, rfl, ha⟩ := open_int8 (hval 1 3 v1 rfl rfl) h1
  refine ⟨rfl, rfl, ?_⟩
  cases h : longT xs with
  | true => exact back8_long A c xs sm hm h W hr
  | false => exact back8_short A c xs sm h ok W hr

set_option maxRecDepth 100000 in
theorem octetBack_lifted (os : Os) (started : os.Started) (H : Type) (enc : TypeId × Value → H) :
    ReturnsInHanded {} Tryd.checked os 5 .any (fun w args => (Rows.octetBackSpec.pre enc Tryd.prog Tryd.f5 [] false w args ∧ laidMetH Tryd.prog laidU w) ∧ sizedMet enc Tryd.prog Tryd.f5 (OpenSpec.ofChange Rows.octetBackSpec) false w args)
      (Rows.octetBackSpec.post enc Tryd.prog Tryd.f5 false true false false) := by
  refine returnsInHanded_of_change_and (C := Tryd.checked) (X := fun w _ => laidMetH Tryd.prog laidU w) (fun _ _ _ hh h => h.of_heap hh) own_knob started (by kernel_rfl) Tryd.func5
    (ChangeSpec.witness_shaped (enc := enc) (C := Tryd.checked) (os := os) (X := fun w _ => laidMetH Tryd.prog laidU w) false (World.laidAll Tryd.prog os laidU) #[.slice none 0 0, .int .i64 0] 8 (World.laidAll_os _ _ _) (World.shaped_of_ZipB (by kernel_rfl) (by kernel_rfl)) (by kernel_rfl) (by kernel_rfl) (by kernel_rfl) (met_U os _)) ?_
  intro W base args ds gs before hval0 hW _ hwt hL _
  have hval : ∀ (j : Nat) t v, Tryd.f5.params[j]? = some t → args[j]? = some v → Value.okWide Tryd.prog W .any base t v := hval0
  obtain ⟨hg, hlen, hc⟩ := octetBack_core H enc W base args ds gs before hval hW (tab_of_laidU hL)
  subst hg
  have hr : (Tryd.f5.params.toList.all fun t => Tryd.prog.readableRec t && decide (t < Tryd.prog.types.size)) = true := by kernel_rfl
  have hread : ∀ t ∈ Tryd.f5.params.toList, Tryd.prog.readableRec t = true ∧ t < Tryd.prog.types.size := fun t ht => by
    have h := List.all_eq_true.1 hr t ht
    rw [Bool.and_eq_true, decide_eq_true_eq] at h
    exact h
  refine hc.mono fun e W' ⟨he, hb⟩ => ?_
  subst he
  match ds, hlen with
  | [d0, d1], _ => exact ⟨_, rfl, law_post laid_out Tryd.underlying4 rfl hread rfl hW rfl rfl rfl hb⟩

theorem octetBack_holds : Rows.OctetBackSaid :=
  OpenClaim.holds_of_wide 5 Tryd.f5 rfl rfl rfl rfl rfl rfl rfl ⟨rfl, rfl, rfl, rfl, rfl⟩ rfl rfl rfl rfl rfl (by kernel_rfl) Tryd.func5 (by kernel_rfl)
    (of_decide_eq_true (by kernel_rfl)) (by unfold Func.isWrapper; first | (rw [if_pos (by decide +kernel)]; kernel_rfl) | (rw [if_neg (by decide +kernel)]; exact ⟨rfl, rfl⟩))
    (fun os started H enc _ => octetBack_lifted os started H enc)

theorem octetBack_card : Rows.OctetBackCardSaid :=
  Claim7.holds_tied_plain_at .later [] [.data, .pinned] true _ false
    octetBack_holds (fun _ h => by cases h) (by kernel_rfl) (fun _ h => by cases h) octetBack_row_tie rfl ⟨rfl, rfl⟩ (by kernel_rfl) rfl
    (fun f fn hf hfn => by
      obtain rfl : f = 5 := Option.some.inj ((show Tryd.prog.funcNamed "paymaster/paymasterlaw08.OctetBack" = some 5 by kernel_rfl).symm.trans hf) |>.symm
      obtain rfl : fn = Tryd.f5 := (Option.some.inj (Tryd.func5.symm.trans hfn)).symm
      exact ⟨by kernel_rfl, fun j t ht => by
        have hm : t ∈ Tryd.f5.params.toList := by simpa using Array.mem_of_getElem? ht
        have hall : (Tryd.f5.params.toList.all fun u => !Tryd.prog.wantsStandIn u) = true := by kernel_rfl
        exact (show Tryd.prog.wantsStandIn t = false by simpa using List.all_eq_true.1 hall t hm)⟩)
    (by kernel_rfl)

end Go.Proofs.YtakhdhbalmcohaaDoor
