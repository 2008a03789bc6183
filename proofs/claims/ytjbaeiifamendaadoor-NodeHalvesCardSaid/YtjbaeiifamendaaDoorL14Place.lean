/-
  The law NodePlaces: from each place of a row that is folded, by the folded blocks beside it, one climbs to what is folded. Conditions: none.
-/
import Derived.Test.YtjbaeiifamendaaDoorU14Awake
import Derived.Test.YtjbaeiifamendaaDoorM14Pln
namespace Go.Proofs.YtjbaeiifamendaaDoor
set_option linter.unusedVariables false
set_option linter.unusedSimpArgs false
set_option maxRecDepth 10000
open Go.ChangeShapes Go.WideShapes Go.ChangeAt Go.RowKit

theorem nds_dropP {w : World} {B : Nat} {a : Addr} {xs : List Nd} (h : ndS.Row w B (some a) xs) (n : Nat) : ndS.Row w B (some (a.add (n * 3))) (xs.drop n) := fun i x hx => by
  rw [List.getElem?_drop] at hx
  obtain ⟨ad, e, hl, hc⟩ := h (n + i) x hx
  injection e with e
  subst e
  refine ⟨_, rfl, by rw [gen_block]; exact hl, ?_⟩
  change ndS.At w ((a.add (n * 3)).add (i * 3)) x
  rw [gen_add, ← Nat.add_mul]
  exact hc
theorem foldN_zero {n : Int} {l : List Nd} (hl : l.length ≤ 300) (h : (foldN n l).2 = 0) (hh : ∀ x ∈ l, x.halved) : ∃ k, k ≤ 8 ∧ l.length = 2 ^ k ∧ allW n l = true ∧ foldN n l = foldS n k l ∧ room (sumN l) = true := by
  cases hV : allW n l with
  | false => rw [foldN, if_neg (by rw [hV]; decide)] at h; cases h
  | true =>
    cases hP : powB l.length with
    | false => rw [foldN, if_pos hV, if_neg (by rw [hP]; decide)] at h; cases h
    | true =>
      obtain ⟨h1, h2⟩ := powB_log _ (by omega) hP
      obtain ⟨hmw, hof⟩ := allW_mem hV
      have e : foldN n l = foldS n (Nat.log2 l.length) l := by rw [foldN, if_pos hV, if_pos hP]
      refine ⟨_, h2, h1, rfl, e, ?_⟩
      cases hr : room (sumN l) with
      | true => rfl
      | false =>
        rw [e, (fold_sums hmw _ l h1 hh hof).2 hr] at h
        cases h
set_option maxRecDepth 100000 in
set_option maxHeartbeats 8000000 in
theorem nodePlaces_good (n : Int) (A : Option Addr) (c : Nat) (ys : List Nd) (q : Nat) (hq : q < 65536) (hc : ys.length ≤ c) (hcm : c ≤ 9223372036854775807) (hy : ∀ z ∈ ys, z.fine) (hg : greatN ys = false) (hf0 : (foldN n ys).2 = 0)
    (w : World) (hR : ndS.Row w w.heap.size A ys) (hT : Tab w) :
    Calls Tryd.prog 7 #[.int .i64 n, .slice A ys.length c, .int .u16 q] w (Tells (.bool true) w.heap.size w) := by
  obtain ⟨hl, hsz⟩ := greatN_no hg
  have hh : ∀ z ∈ ys, z.halved := fun z hz => (hy z hz).2
  obtain ⟨k, hk8, hlk, hV, hfe, hroom⟩ := foldN_zero hl hf0 hh
  obtain ⟨hmw, hof⟩ := allW_mem hV
  have cW := fun u hu => awake14_any u hu
  have cG := fun u hu => great_any A c ys (by omega) (fun x hx => (hy x hx).1) u hu
  rw [hg] at cG
  have cF := fun u hu hu2 => fold14_any n A c ys hl hh u hu hu2
  obtain ⟨N, hN⟩ : ∃ N, ys.length = N := ⟨_, rfl⟩
  have hNk : N = 2 ^ k := hN.symm.trans hlk
  have hN1 : 0 < N := by rw [hNk]; exact Nat.two_pow_pos k
  obtain ⟨pp, hpp⟩ : ∃ pp, q % N = pp := ⟨_, rfl⟩
  have hppN : pp < N := by rw [← hpp]; exact Nat.mod_lt _ hN1
  obtain ⟨x, hx⟩ : ∃ x, ys[pp]? = some x := ⟨_, List.getElem?_eq_getElem (by omega)⟩
  have hxm := List.mem_of_getElem? hx
  obtain ⟨ad, rfl, g1, q0, q1, q2⟩ := nd_get hR hx
  have cC := fun (A' : Option Addr) c' (sd : List Nd) (hm : sd.length ≤ 1000000000) (hsd : ∀ z ∈ sd, z.halved) u hu hu2 => climb14_any n x pp (by omega) A' c' sd hm (hh x hxm) hsd u hu hu2
  rw [hN] at cG cF hc hl ⊢
  obtain ⟨⟨⟨fs, fh, fl⟩, fe⟩, hF⟩ : ∃ V, foldN n ys = V := ⟨_, rfl⟩
  rw [hF] at cF hf0 hfe
  simp only at hf0
  subst hf0
  simp only [Nd.val] at cF
  have HFE := hideIt hfe
  have HNK := hideIt hNk
  have HLK := hideIt hlk
  have HV := hideIt hV
  have HX := hideIt hx
  have hxo := hof x hxm
  have hNi : ¬ ((N : Int) = 0) := by omega
  have hNi2 : (0 : Int) < (N : Int) := by omega
  have er1 : (q : Int) % (N : Int) = (pp : Int) := by rw [← hpp]; exact (Int.natCast_emod q N).symm
  have er2 : (q : Int).tmod (N : Int) = (pp : Int) := by rw [Int.tmod_eq_emod_of_nonneg (by omega)]; exact er1
  clear hF hfe hx hV hlk hNk hpp
  have H0 := Has.start w
  go_enter Tryd.func7, Tryd.ntmps7
  go_upto_region 6 with (first
    | (go_at_call 19; refine (cW _ hT).mono ?_; rintro e w1 ⟨rfl, b1⟩; have K1 := H0.call b1)
    | (go_at_call 9; refine (cG _ (hR.on K1.below)).mono ?_; rintro e w2 ⟨rfl, b2⟩; have K2 := K1.call b2)
    | (go_at_call 17; refine (cF _ (hR.on K2.below) (hT.call K2.below)).mono ?_; rintro e w3 ⟨rfl, b3⟩; have K3 := (K2.call b3).add 26 (ndB fs fh fl))
    | fail)
  obtain ⟨a1, ha1⟩ : ∃ g, w3.heap.size = g := ⟨_, rfl⟩
  rw [ha1] at K3 ⊢
  change Code.wp _ _ _ _ (w3.alloc (.cells (ndB fs fh fl) 26))
  generalize w3.alloc (.cells (ndB fs fh fl) 26) = W7 at *
  clear b3 b2 b1 K2 K1 H0 cF cG cW
  go_wp2
  have hRB0 := fun u (hb : Below W7.heap.size W7 u) => hR.on (chain K3.below hb)
  have hT7 := fun u (hb : Below W7.heap.size W7 u) => hT.call (chain K3.below hb)
  have hcl0 : climbS n x pp [] = foldS n 0 (blk ys 0 (pp / 2 ^ 0)) := by rw [blk_zero HX.out]; rfl
  go_loopg [10, 11, 12] k (fun gk v a s wr => ∃ (j at_ sz : Nat) (sd : List Nd), j ≤ k ∧ k - j ≤ gk ∧ a = .int .i64 at_ ∧ at_ = pp / 2 ^ j ∧ s = .int .i64 sz ∧ sz = 2 ^ j ∧ sd.length = j ∧ wr.ownsRow W7.heap.size 26 3 v j (ndS.flat sd) ∧
    (∀ z ∈ sd, z.of n = true ∧ z.halved) ∧ climbS n x pp sd = foldS n j (blk ys j (pp / 2 ^ j)) ∧ Below W7.heap.size W7 wr)
  case atStart => exact ⟨0, pp, 1, [], Nat.zero_le _, by omega, rfl, by simp, rfl, rfl, rfl, World.ownsRow_nil _ _ _ _, fun z hz => by simp at hz, hcl0, Below.refl _ _⟩
  case round =>
    obtain ⟨j, at_, sz, sd, hj, hgk, rfl, hat, rfl, hsz2, hsdl, hown, hsd, hcl, hb3⟩ := hrel
    have HG := hideIt hgk
    have HAT := hideIt hat
    have HSZ := hideIt hsz2
    clear hgk hcl0
    by_cases hjk : j < k
    · have hat3 : at_ < 2 ^ (k - j) := by
        rw [hat]
        refine Nat.div_lt_of_lt_mul ?_
        rw [← Nat.pow_add, show j + (k - j) = k by omega, ← HNK.out]
        exact hppN
      have hstep := place_step hmw HLK.out hh hof hroom (by omega : j + 1 ≤ k) x pp (by rw [← hat]; exact hat3) sd hsdl hcl
      rw [← hat] at hstep
      have hsb := sib_fit (by omega : j + 1 ≤ k) hat3
      obtain ⟨b, hb⟩ : ∃ b, sib at_ = b := ⟨_, rfl⟩
      rw [hb] at hstep hsb
      obtain ⟨hg1, hbo, hbh⟩ := blk_good hmw HLK.out hh hof hroom (by omega : j ≤ k) hsb
      have hfit := blk_fit (by omega : j ≤ k) hsb
      have hbl := blk_len HLK.out (by omega : j ≤ k) hsb
      have hszk : 2 * sz ≤ N := by
        rw [HNK.out, hsz2]
        have : 2 ^ (j + 1) ≤ 2 ^ k := Nat.pow_le_pow_right (by decide) (by omega)
        rw [Nat.pow_succ] at this
        omega
      have hsz0 : 0 < sz := by rw [hsz2]; exact Nat.two_pow_pos j
      have hszlt : sz < N := by omega
      rw [← HNK.out, ← hsz2] at hfit
      rw [← hsz2] at hbl
      obtain ⟨lo, hlo⟩ : ∃ lo, b * sz = lo := ⟨_, rfl⟩
      obtain ⟨hi', hhi⟩ : ∃ h, (b + 1) * sz = h := ⟨_, rfl⟩
      have hhi2 : hi' = lo + sz := by rw [← hhi, ← hlo, Nat.add_mul, Nat.one_mul]
      rw [hlo] at hfit
      have hblr : blk ys j b = (ys.drop lo).take sz := by rw [blk, ← hsz2, hlo]
      have hblen : (blk ys j b).length = hi' - lo := by omega
      have hblN : (blk ys j b).length ≤ 300 := by omega
      have cB := fun u hu hu2 => fold14_any n (some (ad.add (lo * 3))) (c - lo) (blk ys j b) hblN (fun z hz => hh z (blk_mem hz)) u hu hu2
      have hfb : foldN n (blk ys j b) = foldS n j (blk ys j b) := foldN_pow (by
        rw [allW, hmw, Bool.true_and]
        exact List.all_eq_true.2 fun z hz => hof z (blk_mem hz)) (by rw [hbl, hsz2]) (by omega)
      have hRB : ∀ u, Below W7.heap.size W7 u → ndS.Row u u.heap.size (some (ad.add (lo * 3))) (blk ys j b) := fun u hbu => by
        rw [hblr]
        exact (nds_dropP (hRB0 u hbu) lo).take sz
      rw [hfb, hblen] at cB
      obtain ⟨⟨⟨ts, th, tl⟩, te⟩, hY⟩ : ∃ V, foldS n j (blk ys j b) = V := ⟨_, rfl⟩
      rw [hY] at cB hg1 hbo hbh hstep
      simp only at hg1
      subst hg1
      simp only [Nd.val] at cB hbo hbh hstep
      have HST := hideIt hstep
      have hp8 : 2 ^ (k - j) ≤ 2 ^ 8 := Nat.pow_le_pow_right (by decide) (by omega)
      have hp9 : (2 : Nat) ^ 8 = 256 := by decide
      have hb256 : b < 256 := by omega
      have ha256 : at_ < 256 := by omega
      clear hp8 hp9
      have e1 : IntKind.i64.wrap ((b : Int) * (sz : Int)) = (lo : Int) := by rw [← Int.natCast_mul, hlo, IntKind.wrap_i64]; omega
      have e2 : IntKind.i64.wrap ((b : Int) + 1) = ((b + 1 : Nat) : Int) := by rw [IntKind.wrap_i64]; omega
      have e3 : IntKind.i64.wrap (((b + 1 : Nat) : Int) * (sz : Int)) = (hi' : Int) := by rw [← Int.natCast_mul, hhi, IntKind.wrap_i64]; omega
      obtain ⟨b1, hb1⟩ : ∃ b1, b + 1 = b1 := ⟨_, rfl⟩
      rw [hb1] at e2 e3
      obtain ⟨at2, hat2⟩ : ∃ a, at_ / 2 = a := ⟨_, rfl⟩
      obtain ⟨sz2, hsz3⟩ : ∃ s, sz * 2 = s := ⟨_, rfl⟩
      have e4 : IntKind.i64.wrap ((sz : Int) * 2) = (sz2 : Int) := by rw [IntKind.wrap_i64]; omega
      have hq2 : ((at2 : Nat) : Int) = (at_ : Int) / 2 := by omega
      have HAT2 := hideIt hat2
      have HSZ3 := hideIt hsz3
      have HBB := hideIt (And.intro hbo hbh)
      have hlti : (sz : Int) < (N : Int) := by omega
      have s1 : lo ≤ hi' := by omega
      have s2 : hi' ≤ c := by omega
      have s3 : (lo : Int) ≤ (hi' : Int) := by omega
      have s4 : (hi' : Int) ≤ (c : Int) := by omega
      have s5 : lo < c := by omega
      have s6 : (0 : Int) ≤ (lo : Int) := by omega
      clear hstep hcl hb1 hY hfb hblr hblen hbl hszk hhi2 hfit hlo hhi hat hsz2 hRB0 hbh hbo hsb hat3 hblN
      by_cases hpar : at_ % 2 = 1
      · have hp1 : ((at_ : Int) % 2 == 1) = true := by rw [show (at_ : Int) % 2 = 1 by omega]; rfl
        have hp2 : (at_ : Int) % 2 = 1 := by omega
        have e5 : IntKind.i64.wrap ((at_ : Int) + 1) = ((at_ + 1 : Nat) : Int) := by rw [IntKind.wrap_i64]; omega
        have e6 : IntKind.i64.wrap ((at_ : Int) - 1) = (b : Int) := by rw [← hb, sib, if_pos hpar, IntKind.wrap_i64]; omega
        obtain ⟨at3, hat4⟩ : ∃ a, at_ + 1 = a := ⟨_, rfl⟩
        rw [hat4] at e5
        clear hb hat4 hat2 hsz3
        go_upto_region 16 with (first
          | (go_at_call 17; refine (cB _ (hRB _ hb3) (hT7 _ hb3)).mono ?_; rintro e w5 ⟨rfl, b5⟩)
          | fail)
        have hb5 : Below W7.heap.size W7 (w5.alloc (.cells (ndB ts th tl) 26)) := chainA (chain hb3 b5) _
        have o5 := (own_below hown b5).alloc (.cells (ndB ts th tl) 26)
        have x5 := Box.made w5 26 (ndB ts th tl)
        obtain ⟨z0, z1, z2, -, -, -, zi⟩ := x5.three
        obtain ⟨v', w6, hrun, o6, b6⟩ := nd_app1 (w5.alloc (.cells (ndB ts th tl) 26)) W7.heap.size u10 j sd o5 ⟨ts, th, tl⟩ (by omega) hb5.size
        generalize w5.alloc (.cells (ndB ts th tl) 26) = W5 at *
        go_wp2_with (first
          | (at_builtin; refine gen_run rfl _ _ _ rfl _ _ rfl rfl _ w6 hrun ?_)
          | fail)
        go_roundg (k - (j + 1))
        case measure => have := HG.out; omega
        case rel => exact ⟨j + 1, at2, sz2, sd ++ [⟨ts, th, tl⟩], by omega, Nat.le_refl _, by rw [hq2], by rw [← HAT2.out, HAT.out, Nat.div_div_eq_div_mul, Nat.pow_succ], rfl, by rw [← HSZ3.out, HSZ.out, Nat.pow_succ], by simp [hsdl], o6, fun x hx => by
            rcases List.mem_append.1 hx with hx | hx
            · exact hsd x hx
            · rw [List.mem_singleton.1 hx]; exact HBB.out, HST.out, hb5.trans b6⟩
      · have hp1 : ((at_ : Int) % 2 == 1) = false := by rw [show (at_ : Int) % 2 = 0 by omega]; rfl
        have hp2 : ¬ (at_ : Int) % 2 = 1 := by omega
        have e5 : IntKind.i64.wrap ((at_ : Int) + 1) = (b : Int) := by rw [← hb, sib, if_neg hpar, IntKind.wrap_i64]; omega
        clear hb hat2 hsz3
        go_upto_region 16 with (first
          | (go_at_call 17; refine (cB _ (hRB _ hb3) (hT7 _ hb3)).mono ?_; rintro e w5 ⟨rfl, b5⟩)
          | fail)
        have hb5 : Below W7.heap.size W7 (w5.alloc (.cells (ndB ts th tl) 26)) := chainA (chain hb3 b5) _
        have o5 := (own_below hown b5).alloc (.cells (ndB ts th tl) 26)
        have x5 := Box.made w5 26 (ndB ts th tl)
        obtain ⟨z0, z1, z2, -, -, -, zi⟩ := x5.three
        obtain ⟨v', w6, hrun, o6, b6⟩ := nd_app1 (w5.alloc (.cells (ndB ts th tl) 26)) W7.heap.size u10 j sd o5 ⟨ts, th, tl⟩ (by omega) hb5.size
        generalize w5.alloc (.cells (ndB ts th tl) 26) = W5 at *
        go_wp2_with (first
          | (at_builtin; refine gen_run rfl _ _ _ rfl _ _ rfl rfl _ w6 hrun ?_)
          | fail)
        go_roundg (k - (j + 1))
        case measure => have := HG.out; omega
        case rel => exact ⟨j + 1, at2, sz2, sd ++ [⟨ts, th, tl⟩], by omega, Nat.le_refl _, by rw [hq2], by rw [← HAT2.out, HAT.out, Nat.div_div_eq_div_mul, Nat.pow_succ], rfl, by rw [← HSZ3.out, HSZ.out, Nat.pow_succ], by simp [hsdl], o6, fun x hx => by
            rcases List.mem_append.1 hx with hx | hx
            · exact hsd x hx
            · rw [List.mem_singleton.1 hx]; exact HBB.out, HST.out, hb5.trans b6⟩
    · have e : j = k := by omega
      subst e
      have hlti : ¬ ((sz : Int) < (N : Int)) := by rw [hsz2, HNK.out]; omega
      have hp0 : pp / 2 ^ j = 0 := Nat.div_eq_of_lt (by rw [← HNK.out]; exact hppN)
      rw [hp0, blk_all HLK.out, ← HFE.out] at hcl
      obtain ⟨A2, c2, rfl, -, hR2⟩ := Sh.own_row (S := ndS) (T := 26) (l := sd) (by rw [hsdl]; exact hown)
      have hmem : allW n sd = true := by
        rw [allW, hmw, Bool.true_and]
        exact List.all_eq_true.2 fun z hz => (hsd z hz).1
      have hcn : climbN n x pp sd = (⟨fs, fh, fl⟩, 0) := by rw [climbN, hxo, hmem, if_pos (by decide), if_pos (by omega), hcl]
      have cC := fun u hu hu2 => cC A2 c2 sd (by omega) (fun z hz => (hsd z hz).2) u hu hu2
      rw [hcn, hsdl] at cC
      rw [hsdl]
      have K8 := K3.call hb3
      obtain ⟨y0, y1, y2, -, -, -, yi⟩ := (K8.box 0).three
      have hbW := K8.below
      have p0 : wr.cell? (ad.add (pp * 3)) = _ := (hbW.cell (p := ad.add (pp * 3)) g1).trans q0
      have p1 : wr.cell? ⟨(ad.add (pp * 3)).block, (ad.add (pp * 3)).off + 1, none⟩ = _ := (hbW.cell (p := ⟨(ad.add (pp * 3)).block, (ad.add (pp * 3)).off + 1, none⟩) g1).trans q1
      have p2 : wr.cell? ⟨(ad.add (pp * 3)).block, (ad.add (pp * 3)).off + 2, none⟩ = _ := (hbW.cell (p := ⟨(ad.add (pp * 3)).block, (ad.add (pp * 3)).off + 2, none⟩) g1).trans q2
      have hpi : (pp : Int) < (N : Int) := by omega
      have hpu : IntKind.u64.wrap (pp : Int) = (pp : Int) := by rw [IntKind.wrap_u64]; omega
      have he := fun u => eql_nd_self ⟨fs, fh, fl⟩ u
      obtain ⟨xs, xh, xl⟩ := x
      simp only [Nd.val] at cC p0 p1 p2 he
      clear hcl hp0 hcn hown hsd hmem q0 q1 q2 HX hat hsz2
      go_wp2_with (first
        | (go_at_call 14; refine (cC _ hR2 (hT.call hbW)).mono ?_; rintro e w5 ⟨rfl, b5⟩; have K9 := (K8.call b5).past (.cells (ndB fs fh fl) 26); obtain ⟨z0, z1, z2, -, -, -, zi⟩ := (K9.box 0).three)
        | fail)
      go_ret
      exact ⟨rfl, K9.below⟩
set_option maxRecDepth 100000 in
set_option maxHeartbeats 4000000 in
theorem nodePlaces_any (n : Int) (A : Option Addr) (c : Nat) (ys : List Nd) (q : Nat) (hq : q < 65536) (hc : ys.length ≤ c) (hcm : c ≤ 9223372036854775807) (hy : ∀ z ∈ ys, z.fine)
    (w : World) (hR : ndS.Row w w.heap.size A ys) (hT : Tab w) :
    Calls Tryd.prog 7 #[.int .i64 n, .slice A ys.length c, .int .u16 q] w (Tells (.bool true) w.heap.size w) := by
  have cW := fun u hu => awake14_any u hu
  have cG := fun u hu => great_any A c ys (by omega) (fun x hx => (hy x hx).1) u hu
  have H0 := Has.start w
  cases hg : greatN ys with
  | true =>
    rw [hg] at cG
    clear hg
    go_enter Tryd.func7, Tryd.ntmps7
    go_wp2_with (first
      | (go_at_call 19; refine (cW _ hT).mono ?_; rintro e w1 ⟨rfl, b1⟩; have K1 := H0.call b1)
      | (go_at_call 9; refine (cG _ (hR.on K1.below)).mono ?_; rintro e w2 ⟨rfl, b2⟩; have K2 := K1.call b2)
      | fail)
    go_ret
    exact ⟨rfl, K2.below⟩
  | false =>
    by_cases hf0 : (foldN n ys).2 = 0
    · exact nodePlaces_good n A c ys q hq hc hcm hy hg hf0 w hR hT
    · obtain ⟨hl, hsz⟩ := greatN_no hg
      have cF := fun u hu hu2 => fold14_any n A c ys hl (fun z hz => (hy z hz).2) u hu hu2
      rw [hg] at cG
      obtain ⟨⟨⟨fs, fh, fl⟩, fe⟩, hF⟩ : ∃ V, foldN n ys = V := ⟨_, rfl⟩
      rw [hF] at cF hf0
      simp only [Nd.val] at cF hf0
      have hf1 : (fe != 0) = true := by simp [hf0]
      clear hF hg hsz
      go_enter Tryd.func7, Tryd.ntmps7
      go_wp2_with (first
        | (go_at_call 19; refine (cW _ hT).mono ?_; rintro e w1 ⟨rfl, b1⟩; have K1 := H0.call b1)
        | (go_at_call 9; refine (cG _ (hR.on K1.below)).mono ?_; rintro e w2 ⟨rfl, b2⟩; have K2 := K1.call b2)
        | (go_at_call 17; refine (cF _ (hR.on K2.below) (hT.call K2.below)).mono ?_; rintro e w3 ⟨rfl, b3⟩; have K3 := (K2.call b3).add 26 (ndB fs fh fl))
        | fail)
      go_ret
      exact ⟨rfl, K3.below⟩
end Go.Proofs.YtjbaeiifamendaaDoor
