/-
  The law NodeHalves, walked. Conditions: none.
-/
import Derived.Test.YtjbaeiifamendaaDoorL14Halv
import Derived.Deep.AppendLies
import Derived.Deep.RegionHeld3
namespace Go.Proofs.YtjbaeiifamendaaDoor
set_option linter.unusedVariables false
set_option linter.unusedSimpArgs false
set_option maxRecDepth 10000
open Go.ChangeShapes Go.WideShapes Go.ChangeAt Go.RowKit

set_option maxRecDepth 100000 in
set_option maxHeartbeats 8000000 in
theorem nodeHalves_short (n : Int) (A : Option Addr) (c : Nat) (x : Nd) (r : List Nd) (p : Nat) (hp : p < 18446744073709551616) (s : Nat) (hs : s < 256) (hc : (x :: r).length ≤ c) (hcm : c ≤ 9223372036854775807) (hy : ∀ z ∈ x :: r, z.fine) (hg : greatN (x :: r) = false)
    (w : World) (hR : ndS.Row w w.heap.size A (x :: r)) (hT : Tab w) :
    Calls Tryd.prog 8 #[.int .i64 n, .slice A (x :: r).length c, .int .u64 p, .int .u8 s] w (Tells (.bool true) w.heap.size w) := by
  obtain ⟨hl, hsz⟩ := greatN_no hg
  have hh : ∀ z ∈ x :: r, z.halved := fun z hz => (hy z hz).2
  have cW := fun u hu => awake14_any u hu
  have cG := fun u hu => great_any A c (x :: r) (by omega) (fun x hx => (hy x hx).1) u hu
  rw [hg] at cG
  have cF := fun u hu hu2 => fold14_any n A c (x :: r) hl hh u hu hu2
  obtain ⟨ad, rfl, g1, q0, q1, q2⟩ := nd_get hR (i := 0) (x := x) rfl
  have ez : ad.add (0 * 3) = ad := by simp [Addr.add]
  rw [ez] at q0 q1 q2 g1
  have hhv := fun h h2 => halves_of (n := n) hl h hh h2
  have cFt := fun (q : Nat) u hu hu2 => fold14_any n (some ad) c ((x :: r).take q) (by rw [List.length_take]; omega) (fun z hz => hh z (List.mem_of_mem_take hz)) u hu hu2
  have cFd := fun (q : Nat) u hu hu2 => fold14_any n (some (ad.add (q * 3))) (c - q) ((x :: r).drop q) (by rw [List.length_drop]; omega) (fun z hz => hh z (List.mem_of_mem_drop hz)) u hu hu2
  obtain ⟨N, hN⟩ : ∃ N, (x :: r).length = N := ⟨_, rfl⟩
  have hN1 : 1 ≤ N := by rw [← hN, List.length_cons]; omega
  have hM : r.length = N - 1 := by rw [← hN, List.length_cons]; omega
  rw [hN] at cG cF hc hl hhv ⊢
  obtain ⟨⟨⟨fs, fh, fl⟩, fe⟩, hF⟩ : ∃ V, foldN n (x :: r) = V := ⟨_, rfl⟩
  rw [hF] at cF hhv
  simp only [Nd.val] at cF
  have HN := hideIt hN
  have HM := hideIt hM
  have hneq : ¬ ((N : Int) = 0) := by omega
  have z2 : (0 : Int) < (N : Int) := by omega
  have z4 : 0 < N := by omega
  have hh2 : (N : Int) / 2 = ((N / 2 : Nat) : Int) := by omega
  obtain ⟨q, hqd⟩ : ∃ q, N / 2 = q := ⟨_, rfl⟩
  rw [hqd] at hh2
  have H0 := Has.start w
  clear hF hN hM ez hsz hg
  go_enter Tryd.func8, Tryd.ntmps8
  go_upto_region 7 with (first
    | (go_at_call 19; refine (cW _ hT).mono ?_; rintro e w1 ⟨rfl, b1⟩; have K1 := H0.call b1)
    | (go_at_call 9; refine (cG _ (hR.on K1.below)).mono ?_; rintro e w2 ⟨rfl, b2⟩; have K2 := K1.call b2)
    | (go_at_call 17; refine (cF _ (hR.on K2.below) (hT.call K2.below)).mono ?_; rintro e w3 ⟨rfl, b3⟩; have K3 := (K2.call b3).add 26 (ndB fs fh fl))
    | fail)
  obtain ⟨a1, ha1⟩ : ∃ g, w3.heap.size = g := ⟨_, rfl⟩
  rw [ha1] at K3 ⊢
  change Code.wp _ _ _ _ (w3.alloc (.cells (ndB fs fh fl) 26))
  generalize w3.alloc (.cells (ndB fs fh fl) 26) = W3 at *
  clear b3 b2 b1 K2 K1 H0 cF cG cW
  obtain ⟨V, hV⟩ : ∃ V, decide (fe = 0 ∧ 1 < N) = V := ⟨_, rfl⟩
  go_cut [49] (fun s49 wx => s49 = .bool V ∧ wx = W3)
  case first =>
    by_cases hfz : fe = 0
    · subst hfz
      by_cases hq0 : 1 < N
      · have hV2 : V = true := by rw [← hV]; exact decide_eq_true ⟨rfl, hq0⟩
        subst hV2
        have s6 : 0 < q := by omega
        have s7 : (0 : Int) < (q : Int) := by omega
        go_wp2
        go_meet
        exact ⟨rfl, rfl⟩
      · have hV2 : V = false := by rw [← hV]; exact decide_eq_false (fun h => hq0 h.2)
        subst hV2
        have hq1 : q = 0 := by omega
        subst hq1
        go_wp2
        go_meet
        exact ⟨rfl, rfl⟩
    · have hfz1 : (fe == 0) = false := beq_false_of_ne hfz
      have hV2 : V = false := by rw [← hV]; exact decide_eq_false (fun h => hfz h.1)
      subst hV2
      go_wp2
      go_meet
      exact ⟨rfl, rfl⟩
  case rest =>
  obtain ⟨rfl, rfl⟩ := hcut
  go_upto_if 49 with fail
  go_cut [] (fun wx => Has w [(a1, 26, ndB fs fh fl)] wx)
  case first =>
    cases V with
    | false =>
      go_wp2
      go_meet
      exact K3
    | true =>
      obtain ⟨hfz, hq0⟩ := of_decide_eq_true hV
      subst hfz
      obtain ⟨q', hq', h1q, ha0, hb0, hjn, ⟨hah, has_⟩, hbh, hbs⟩ := hhv rfl hq0
      obtain rfl : q' = q := by omega
      have cA := fun u hu hu2 => cFt q' u hu hu2
      have cB := fun u hu hu2 => cFd q' u hu hu2
      have lA : ((x :: r).take q').length = q' := by rw [List.length_take, HN.out]; omega
      have lB : ((x :: r).drop q').length = N - q' := by rw [List.length_drop, HN.out]
      rw [lA] at cA
      rw [lB] at cB
      have rA := fun u (hu : Below w.heap.size w u) => (hR.on hu).take q'
      have rB := fun u (hu : Below w.heap.size w u) => nds_dropP (hR.on hu) q'
      obtain ⟨⟨⟨bs, bh, bl⟩, be⟩, hB⟩ : ∃ V, foldN n ((x :: r).take q') = V := ⟨_, rfl⟩
      obtain ⟨⟨⟨ds, dh, dl⟩, de⟩, hD⟩ : ∃ V, foldN n ((x :: r).drop q') = V := ⟨_, rfl⟩
      rw [hB] at cA ha0 hjn hah has_
      rw [hD] at cB hb0 hjn hbh hbs
      simp only at ha0 hb0 hjn hah has_ hbh hbs
      subst ha0
      subst hb0
      have cJ := fun u hu => Join14_any n ⟨bs, bh, bl⟩ ⟨ds, dh, dl⟩ (Nat.le_trans has_ (by decide)) (Nat.le_trans hbs (by decide)) hah hbh u hu
      rw [hjn] at cJ
      simp only [Nd.val] at cA cB cJ
      have he := fun u => run_neq_self ⟨fs, fh, fl⟩ u
      simp only [Nd.val] at he
      have s1 : q' ≤ c := by omega
      have s2 : (q' : Int) ≤ (c : Int) := by omega
      have s3 : (q' : Int) ≤ (N : Int) := by omega
      have s4 : q' < c := by omega
      have s5 : (0 : Int) < (q' : Int) := by omega
      have s6 : 0 < q' := by omega
      clear hhv cFt cFd hjn hB hD lA lB hq' hqd hq0 hah has_ hbh hbs
      go_wp2_with (first
        | (go_at_call 17; refine (cA _ (rA _ K3.below) (hT.call K3.below)).mono ?_; rintro e w4 ⟨rfl, b4⟩; clear cA; have K4 := (K3.call b4).add 26 (ndB bs bh bl))
        | (go_at_call 17; refine (cB _ (rB _ K4.below) (hT.call K4.below)).mono ?_; rintro e w5 ⟨rfl, b5⟩; have K5 := (K4.call b5).add 26 (ndB ds dh dl); obtain ⟨x0, x1, x2, -, -, -, xi⟩ := (K5.box 0).three; obtain ⟨y0, y1, y2, -, -, -, yi⟩ := (K5.box 1).three)
        | (go_at_call 10; refine (cJ _ (hT.call K5.below)).mono ?_; rintro e w6 ⟨rfl, b6⟩; have K6 := (K5.call b6).add 26 (ndB fs fh fl); obtain ⟨p0, p1, p2, -, -, -, pi⟩ := (K6.box 0).three; obtain ⟨r0, r1, r2, -, -, -, ri⟩ := (K6.box 3).three)
        | fail)
      go_meet
      exact K6.tail.tail.tail
  case rest =>
    have K4 := hcut
    clear hcut K3 hhv cFt cFd hqd hh2
    obtain ⟨B, hB⟩ : ∃ B, (if c = 1 then ad else ⟨ad.block, ad.off + 3, none⟩) = B := ⟨_, rfl⟩
    have hB2 : (if c = 1 then some ad else some ⟨ad.block, ad.off + 3, none⟩) = some B := by rw [← hB]; split <;> rfl
    obtain ⟨M, hM⟩ : ∃ M, N - 1 = M := ⟨_, rfl⟩
    have hRt : ndS.Row w w.heap.size (some B) r := by
      rw [← hB]
      by_cases hc1 : c = 1
      · have e : r = [] := List.eq_nil_of_length_eq_zero (by rw [HM.out]; omega)
        rw [e]
        exact Sh.Row.nil ndS _ _ _
      · have h := nds_dropP hR 1
        rw [List.drop_one, List.tail_cons] at h
        rw [if_neg hc1]
        exact h
    have z5 : (1 : Int) ≤ (N : Int) := by omega
    have z6 : (N : Int) ≤ (c : Int) := by omega
    go_upto_region 14 with fail
    obtain ⟨D, hD⟩ : ∃ D, c - 1 = D := ⟨_, rfl⟩
    rw [hD]
    have hMD : M ≤ D := by omega
    have hD63 : D ≤ 9223372036854775807 := by omega
    have hrM : r.length = M := HM.out.trans hM
    obtain ⟨k, hk⟩ : ∃ k, s % N = k := ⟨_, rfl⟩
    have hkN : k < N := by rw [← hk]; exact Nat.mod_lt _ (by omega)
    have hkM : k ≤ M := by omega
    have er1 : (s : Int) % (N : Int) = (k : Int) := by rw [← hk]; exact (Int.natCast_emod s N).symm
    have er2 : (s : Int).tmod (N : Int) = (k : Int) := by rw [Int.tmod_eq_emod_of_nonneg (by omega)]; exact er1
    have ew : IntKind.i64.wrap ((M : Int) + 1) = (N : Int) := by rw [IntKind.wrap_i64]; omega
    have c0' : wc.cell? ad = some (.string x.hash) := (K4.below.cell (p := ad) g1).trans q0
    have c1' : wc.cell? ⟨ad.block, ad.off + 1, none⟩ = some (.int .u64 x.h) := (K4.below.cell (p := ⟨ad.block, ad.off + 1, none⟩) g1).trans q1
    have c2' : wc.cell? ⟨ad.block, ad.off + 2, none⟩ = some (.int .u64 x.l) := (K4.below.cell (p := ⟨ad.block, ad.off + 2, none⟩) g1).trans q2
    have hxh := hh x (by simp)
    have hrh : ∀ z ∈ r, z.halved := fun z hz => hh z (by simp [hz])
    have cC := fun u hu hu2 => climb14_any n x p hp (some B) D r (by omega) hxh hrh u hu hu2
    have hparts := fun h => climb_parts (n := n) (p := p) k (by omega : k ≤ r.length) hxh hrh h
    have cH := fun u hu hu2 => climb14_any n x p hp (some B) D (r.take k) (by rw [List.length_take]; omega) hxh (fun z hz => hrh z (List.mem_of_mem_take hz)) u hu hu2
    have hp2 : p / 2 ^ k < 18446744073709551616 := Nat.lt_of_le_of_lt (Nat.div_le_self _ _) hp
    have cR := fun (A' : Option Addr) c' hd (hhd : Nd.halved hd) u hu hu2 => climb14_any n hd (p / 2 ^ k) hp2 A' c' (r.drop k) (by rw [List.length_drop]; omega) hhd (fun z hz => hrh z (List.mem_of_mem_drop hz)) u hu hu2
    have lH : (r.take k).length = k := by rw [List.length_take]; omega
    have lR : (r.drop k).length = M - k := by rw [List.length_drop, hrM]
    rw [hrM] at cC
    rw [lH] at cH
    rw [lR] at cR
    have hRk : ∀ u, Below w.heap.size w u → ndS.Row u u.heap.size (some B) (r.take k) := fun u hu => (hRt.on hu).take k
    have hRd : ∀ u, Below w.heap.size w u → ndS.Row u u.heap.size (some (B.add (k * 3))) (r.drop k) := fun u hu => nds_dropP (hRt.on hu) k
    obtain ⟨⟨⟨gs, gh, gl⟩, ge⟩, hC⟩ : ∃ V, climbN n x p r = V := ⟨_, rfl⟩
    rw [hC] at cC hparts
    have hxx : x = x := rfl
    obtain ⟨xs, xh, xl⟩ := x
    simp only [Nd.val] at cC c0' c1' c2'
    have HNM := hideIt hM
    clear hk hD hM hrM lH lR hC hp2 hxx
    by_cases hgz : ge = 0
    · subst hgz
      by_cases hk63 : k ≤ 63
      · obtain ⟨h1, h2, h3⟩ := hparts rfl
        obtain ⟨⟨⟨us, uh, ul⟩, ue⟩, hH⟩ : ∃ V, climbN n ⟨xs, xh, xl⟩ p (r.take k) = V := ⟨_, rfl⟩
        rw [hH] at cH h1 h2 h3
        simp only at h1 h2 h3
        subst h1
        have cR := fun A' c' u hu hu2 => cR A' c' ⟨us, uh, ul⟩ h3 u hu hu2
        rw [h2, show ((p / 2 ^ k : Nat) : Int) = (p : Int) / 2 ^ k by rw [Int.natCast_ediv, Int.natCast_pow]; rfl] at cR
        simp only [Nd.val] at cH cR
        have he := fun u => eql_nd_self ⟨gs, gh, gl⟩ u
        simp only [Nd.val] at he
        have hki : ¬ (63 : Int) < (k : Int) := by omega
        have hkD : k ≤ D := by omega
        have hkDi : (k : Int) ≤ (D : Int) := by omega
        have hkMi : (k : Int) ≤ (M : Int) := by omega
        have hku : IntKind.u64.wrap (k : Int) = (k : Int) := by rw [IntKind.wrap_u64]; omega
        have hk0 : (0 : Int) ≤ (k : Int) := by omega
        clear h2 h3 hH hparts hk63
        go_upto_region 18 with (first
          | (go_at_call 14; refine (cC _ (hRt.on K4.below) (hT.call K4.below)).mono ?_; rintro e w5 ⟨rfl, b5⟩; have K5 := (K4.call b5).add 26 (ndB gs gh gl))
          | fail)
        obtain ⟨a2, ha2⟩ : ∃ g, w5.heap.size = g := ⟨_, rfl⟩
        rw [ha2] at K5 ⊢
        change Code.wp _ _ _ _ (w5.alloc (.cells (ndB gs gh gl) 26))
        generalize w5.alloc (.cells (ndB gs gh gl) 26) = W5 at *
        clear b5 cC c0' c1' c2' K4
        have c0' : W5.cell? ad = some (.string xs) := (K5.below.cell (p := ad) g1).trans q0
        have c1' : W5.cell? ⟨ad.block, ad.off + 1, none⟩ = some (.int .u64 xh) := (K5.below.cell (p := ⟨ad.block, ad.off + 1, none⟩) g1).trans q1
        have c2' : W5.cell? ⟨ad.block, ad.off + 2, none⟩ = some (.int .u64 xl) := (K5.below.cell (p := ⟨ad.block, ad.off + 2, none⟩) g1).trans q2
        have hbB := K5.below.size
        have hR5 := fun u (hb : Below W5.heap.size W5 u) => hRk u (chain K5.below hb)
        have hT5 := fun u (hb : Below W5.heap.size W5 u) => hT.call (chain K5.below hb)
        go_cut [22, 23] (fun s22 s23 wx => ∃ g, s22 = .pointer (some ⟨g, 0, none⟩) ∧ s23 = .int .i64 0 ∧ Box wx g 26 (ndB us uh ul) ∧ Below W5.heap.size W5 wx)
        case first =>
          go_region_held3 (fun w' => Below W5.heap.size W5 w' ∧ w'.cell? ad = some (.string xs) ∧ w'.cell? ⟨ad.block, ad.off + 1, none⟩ = some (.int .u64 xh) ∧ w'.cell? ⟨ad.block, ad.off + 2, none⟩ = some (.int .u64 xl))
            (exact (fun (hb : Below W5.heap.size W5 _) => ⟨hb, (hb.cell (p := ad) (Nat.lt_of_lt_of_le g1 hbB)).trans c0', (hb.cell (p := ⟨ad.block, ad.off + 1, none⟩) (Nat.lt_of_lt_of_le g1 hbB)).trans c1', (hb.cell (p := ⟨ad.block, ad.off + 2, none⟩) (Nat.lt_of_lt_of_le g1 hbB)).trans c2'⟩)
              (by repeat (first
                | exact Below.refl _ _
                | exact chain (by repeat (first | exact Below.refl _ _ | apply Below.drew | refine Below.alloc ?_ (by simp) _)) hb3
                | apply Below.drew
                | refine Below.alloc ?_ (by first | exact Nat.le_refl _ | (have := hb3.size; simp at this ⊢; omega)) _
                | refine Below.setCell ?_ (by first | exact Nat.le_refl _ | (have := hb3.size; simp at this ⊢; omega)) _)))
            (first
              | (go_at_call 14; ((with_reducible refine (cH _ (hR5 _ (by repeat (first | exact Below.refl _ _ | apply Below.drew | refine Below.alloc ?_ (by simp) _))) (hT5 _ (by repeat (first | exact Below.refl _ _ | apply Below.drew | refine Below.alloc ?_ (by simp) _)))).mono ?_); rintro e w3 ⟨rfl, hb3⟩)
                 first
                   | (have G3 := ((Box.made W5 26 (ndB ⟨#[]⟩ 0 0)).draw).call hb3
                      obtain ⟨k1, k2, k3, k4, k5, k6, k7⟩ := G3.three)
                   | (have G3 := (Box.made W5.drew 26 (ndB ⟨#[]⟩ 0 0)).call hb3
                      obtain ⟨k1, k2, k3, k4, k5, k6, k7⟩ := G3.three)
                   | skip))
          all_goals go_wp2_with fail
          all_goals go_meet
          · exact ⟨_, rfl, rfl, Box.made _ _ _, by
              repeat (first
                | exact Below.refl _ _
                | exact chain (by repeat (first | exact Below.refl _ _ | apply Below.drew | refine Below.alloc ?_ (by simp) _)) hb3
                | apply Below.drew
                | refine Below.alloc ?_ (by first | exact Nat.le_refl _ | (have := hb3.size; simp at this ⊢; omega)) _)⟩
          · exact ⟨_, rfl, rfl, ((G3.wrote 0 _).wrote 1 _).wrote 2 _, by
              repeat (first
                | exact Below.refl _ _
                | exact chain (by repeat (first | exact Below.refl _ _ | apply Below.drew | refine Below.alloc ?_ (by simp) _)) hb3
                | apply Below.drew
                | refine Below.setCell ?_ (by first | exact Nat.le_refl _ | (have := hb3.size; simp at this ⊢; omega)) _)⟩
        case rest =>
          obtain ⟨a3, rfl, rfl, hbx, hbl⟩ := hcut
          have K6 := (K5.call hbl).with hbx
          rename World => W6
          clear hbx hbl c0' c1' c2' hR5 hT5 cH K5 hbB hRk
          have hX := K6.box 0
          have hT6 := fun u (hb : Below W6.heap.size W6 u) => hT.call (chain K6.below hb)
          obtain ⟨c0', c1', c2', -, -, -, hci⟩ := hX.three
          go_upto_region 19 with fail
          go_cut [24, 25] (fun s24 s25 wx => ∃ g, s24 = .pointer (some ⟨g, 0, none⟩) ∧ s25 = .int .i64 0 ∧ Box wx g 26 (ndB gs gh gl) ∧ Below W6.heap.size W6 wx)
          case first =>
            by_cases hkD2 : k = D
            · have hMk : M = k := by omega
              subst hkD2
              subst hMk
              have hdn : r.drop M = [] := List.eq_nil_of_length_eq_zero (by rw [List.length_drop, HM.out, HNM.out, Nat.sub_self])
              have cR2 := fun u hu hu2 => cR (some B) 0 u hu hu2
              simp only [Nat.sub_self] at cR2
              have hR6 : ∀ u, Below W6.heap.size W6 u → ndS.Row u u.heap.size (some B) (r.drop M) := fun u hb => by
                rw [hdn]
                exact Sh.Row.nil ndS _ _ _
              go_region_held3 (fun w' => Below W6.heap.size W6 w' ∧ w'.cell? ⟨a3, 0, none⟩ = some (.string us) ∧ w'.cell? ⟨a3, 1, none⟩ = some (.int .u64 uh) ∧ w'.cell? ⟨a3, 2, none⟩ = some (.int .u64 ul))
                (exact (fun (hb : Below W6.heap.size W6 _) => ⟨hb, (hX.call hb).read 0, (hX.call hb).read 1, (hX.call hb).read 2⟩)
                  (by repeat (first
                    | exact Below.refl _ _
                    | exact chain (by repeat (first | exact Below.refl _ _ | apply Below.drew | refine Below.alloc ?_ (by simp) _)) hb3
                    | apply Below.drew
                    | refine Below.alloc ?_ (by first | exact Nat.le_refl _ | (have := hb3.size; simp at this ⊢; omega)) _
                    | refine Below.setCell ?_ (by first | exact Nat.le_refl _ | (have := hb3.size; simp at this ⊢; omega)) _)))
                (first
                  | (go_at_call 14; ((with_reducible refine (cR2 _ (hR6 _ (by repeat (first | exact Below.refl _ _ | apply Below.drew | refine Below.alloc ?_ (by simp) _))) (hT6 _ (by repeat (first | exact Below.refl _ _ | apply Below.drew | refine Below.alloc ?_ (by simp) _)))).mono ?_); rintro e w3 ⟨rfl, hb3⟩)
                     first
                       | (have G3 := ((Box.made W6 26 (ndB ⟨#[]⟩ 0 0)).draw).call hb3
                          obtain ⟨k1, k2, k3, k4, k5, k6, k7⟩ := G3.three)
                       | (have G3 := (Box.made W6.drew 26 (ndB ⟨#[]⟩ 0 0)).call hb3
                          obtain ⟨k1, k2, k3, k4, k5, k6, k7⟩ := G3.three)
                       | skip))
              all_goals go_wp2_with fail
              all_goals go_meet
              · exact ⟨_, rfl, rfl, Box.made _ _ _, by
                  repeat (first
                    | exact Below.refl _ _
                    | exact chain (by repeat (first | exact Below.refl _ _ | apply Below.drew | refine Below.alloc ?_ (by simp) _)) hb3
                    | apply Below.drew
                    | refine Below.alloc ?_ (by first | exact Nat.le_refl _ | (have := hb3.size; simp at this ⊢; omega)) _)⟩
              · exact ⟨_, rfl, rfl, ((G3.wrote 0 _).wrote 1 _).wrote 2 _, by
                  repeat (first
                    | exact Below.refl _ _
                    | exact chain (by repeat (first | exact Below.refl _ _ | apply Below.drew | refine Below.alloc ?_ (by simp) _)) hb3
                    | apply Below.drew
                    | refine Below.setCell ?_ (by first | exact Nat.le_refl _ | (have := hb3.size; simp at this ⊢; omega)) _)⟩
            · have hkD3 : k < D := by omega
              have hkD4 : ¬ D = k := by omega
              have cR2 := fun u hu hu2 => cR (some (B.add (k * 3))) (D - k) u hu hu2
              have hR6 := fun u (hb : Below W6.heap.size W6 u) => hRd u (chain K6.below hb)
              go_region_held3 (fun w' => Below W6.heap.size W6 w' ∧ w'.cell? ⟨a3, 0, none⟩ = some (.string us) ∧ w'.cell? ⟨a3, 1, none⟩ = some (.int .u64 uh) ∧ w'.cell? ⟨a3, 2, none⟩ = some (.int .u64 ul))
                (exact (fun (hb : Below W6.heap.size W6 _) => ⟨hb, (hX.call hb).read 0, (hX.call hb).read 1, (hX.call hb).read 2⟩)
                  (by repeat (first
                    | exact Below.refl _ _
                    | exact chain (by repeat (first | exact Below.refl _ _ | apply Below.drew | refine Below.alloc ?_ (by simp) _)) hb3
                    | apply Below.drew
                    | refine Below.alloc ?_ (by first | exact Nat.le_refl _ | (have := hb3.size; simp at this ⊢; omega)) _
                    | refine Below.setCell ?_ (by first | exact Nat.le_refl _ | (have := hb3.size; simp at this ⊢; omega)) _)))
                (first
                  | (go_at_call 14; ((with_reducible refine (cR2 _ (hR6 _ (by repeat (first | exact Below.refl _ _ | apply Below.drew | refine Below.alloc ?_ (by simp) _))) (hT6 _ (by repeat (first | exact Below.refl _ _ | apply Below.drew | refine Below.alloc ?_ (by simp) _)))).mono ?_); rintro e w3 ⟨rfl, hb3⟩)
                     first
                       | (have G3 := ((Box.made W6 26 (ndB ⟨#[]⟩ 0 0)).draw).call hb3
                          obtain ⟨k1, k2, k3, k4, k5, k6, k7⟩ := G3.three)
                       | (have G3 := (Box.made W6.drew 26 (ndB ⟨#[]⟩ 0 0)).call hb3
                          obtain ⟨k1, k2, k3, k4, k5, k6, k7⟩ := G3.three)
                       | skip))
              all_goals go_wp2_with fail
              all_goals go_meet
              · exact ⟨_, rfl, rfl, Box.made _ _ _, by
                  repeat (first
                    | exact Below.refl _ _
                    | exact chain (by repeat (first | exact Below.refl _ _ | apply Below.drew | refine Below.alloc ?_ (by simp) _)) hb3
                    | apply Below.drew
                    | refine Below.alloc ?_ (by first | exact Nat.le_refl _ | (have := hb3.size; simp at this ⊢; omega)) _)⟩
              · exact ⟨_, rfl, rfl, ((G3.wrote 0 _).wrote 1 _).wrote 2 _, by
                  repeat (first
                    | exact Below.refl _ _
                    | exact chain (by repeat (first | exact Below.refl _ _ | apply Below.drew | refine Below.alloc ?_ (by simp) _)) hb3
                    | apply Below.drew
                    | refine Below.setCell ?_ (by first | exact Nat.le_refl _ | (have := hb3.size; simp at this ⊢; omega)) _)⟩
          case rest =>
            obtain ⟨a4, rfl, rfl, hbx, hbl⟩ := hcut
            have K7 := (K6.call hbl).with hbx
            obtain ⟨x0, x1, x2, -, -, -, xi⟩ := (K7.box 0).three
            obtain ⟨y0, y1, y2, -, -, -, yi⟩ := (K7.box 2).three
            clear hbx hbl K6 hX hT6
            go_wp2
            go_ret
            exact ⟨rfl, K7.below⟩
      · have hki : (63 : Int) < (k : Int) := by omega
        go_wp2_with (first
          | (go_at_call 14; refine (cC _ (hRt.on K4.below) (hT.call K4.below)).mono ?_; rintro e w5 ⟨rfl, b5⟩; have K5 := (K4.call b5).add 26 (ndB gs gh gl))
          | fail)
        go_ret
        exact ⟨rfl, K5.below⟩
    · have hgz1 : (ge != 0) = true := by simp [hgz]
      go_wp2_with (first
        | (go_at_call 14; refine (cC _ (hRt.on K4.below) (hT.call K4.below)).mono ?_; rintro e w5 ⟨rfl, b5⟩; have K5 := (K4.call b5).add 26 (ndB gs gh gl))
        | fail)
      go_ret
      exact ⟨rfl, K5.below⟩
end Go.Proofs.YtjbaeiifamendaaDoor
