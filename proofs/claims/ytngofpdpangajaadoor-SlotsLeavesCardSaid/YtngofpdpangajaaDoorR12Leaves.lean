/-
  The document's Leaves and SameLeaves, walked.
-/
import Derived.Test.YtngofpdpangajaaDoorU12Leaves
import Derived.Test.YtngofpdpangajaaDoorM12Ref
import Derived.Test.YtngofpdpangajaaDoorM7Ref
import Derived.Test.YtngofpdpangajaaDoorE7Same
namespace Go.Proofs.YtngofpdpangajaaDoor
set_option linter.unusedVariables false
set_option linter.unusedSimpArgs false
set_option maxRecDepth 10000
open Go.RowKit Go.Sort Go.Lib

set_option maxRecDepth 100000 in
set_option maxHeartbeats 2000000 in
theorem rsameLf_any (A B : Option Addr) (c d : Nat) (l : List Lf) (hl : l.length ≤ 1000000000) (w : World) (h1 : LfRow w w.heap.size A l) (h2 : LfRow w w.heap.size B l) :
    Calls Tryd.prog 28 #[.slice A l.length c, .slice B l.length d] w (Tells (.bool true) w.heap.size w) := by
  have hq : ∀ (x : Lf) (u : World), (binOp .neq 46 (.agg #[.bool x.pad, .string x.id, .string x.salt, .int .u64 x.h, .int .u64 x.l]) (.agg #[.bool x.pad, .string x.id, .string x.salt, .int .u64 x.h, .int .u64 x.l])).run Tryd.prog u = .ok (.bool false) u := fun x u => by
    have h := run_neq_lf x x u
    rw [Lf.same_self] at h
    exact h
  go_enter Tryd.func28, Tryd.ntmps28
  go_wp2
  go_loopg [5] l.length (fun gk i wr => ∃ k : Nat, k ≤ l.length ∧ gk = l.length - k ∧ i = .int .i64 k ∧ Below w.heap.size w wr)
  case atStart => exact ⟨0, by omega, rfl, rfl, Below.refl _ _⟩
  case round =>
    obtain ⟨k, hk, hgk, rfl, hb⟩ := hrel
    have HG := hideIt hgk
    clear hgk
    by_cases hlt : k < l.length
    · obtain ⟨x, hx⟩ : ∃ x, l[k]? = some x := ⟨_, List.getElem?_eq_getElem (by omega)⟩
      obtain ⟨ad, rfl, hadl, p0, p1, p2, p3, p4⟩ := h1.call hb k x hx
      obtain ⟨ae, rfl, hael, q0, q1, q2, q3, q4⟩ := h2.call hb k x hx
      have hlti : (k : Int) < (l.length : Int) := by omega
      have g1 : (ad.add (k * 5)).block < wr.heap.size := by rw [o10_block]; exact Nat.lt_of_lt_of_le hadl hb.size
      have g2 : (ae.add (k * 5)).block < wr.heap.size := by rw [o10_block]; exact Nat.lt_of_lt_of_le hael hb.size
      have hq1 := hq x
      clear hx hq
      go_upto_region 6 with fail
      go_quiet (fail)
      go_wp2
      go_roundg (l.length - (k + 1))
      case measure => have := HG.out; omega
      case rel => exact ⟨k + 1, by omega, rfl, by go_num, below_drewN hb _⟩
    · go_wp2
      go_ret
      exact ⟨rfl, hb⟩
/-- append of one leaf. -/
theorem app_lf (w : World) (base : Nat) (v : Value) (n : Nat) (ys : List Lf) (hown : w.ownsRow base 46 5 v n (lfCs ys)) (p : Bool) (i s : ByteArray) (h l : Int) (hm : n ≤ 100000000) (hb : base ≤ w.heap.size) :
    ∃ v' w', (∀ ty, (Builtin.append_ #[49, 49] ty #[v, .slice (some ⟨w.heap.size, 0, none⟩) 1 1]).run Tryd.prog (w.alloc (.cells #[.bool p, .string i, .string s, .int .u64 h, .int .u64 l] 46)) = .ok v' w') ∧
      w'.ownsRow base 46 5 v' (n + 1) (lfCs (ys ++ [⟨p, i, s, h, l⟩])) ∧ (w.alloc (.cells #[.bool p, .string i, .string s, .int .u64 h, .int .u64 l] 46)).grownBy w' v.ownBlock := by
  obtain ⟨i0, hi, hz0, hz1, hz2⟩ := info_parts infoS_lf
  obtain ⟨v', w', hr, h2, h3, -, -⟩ := run_append_own_at (P := Tryd.prog) (w.alloc (.cells #[.bool p, .string i, .string s, .int .u64 h, .int .u64 l] 46)) base 49 0 46 i0 _ 5 56 Tryd.underlying49 hi hz0 hz1 hz2 rfl (by decide) v n (lfCs ys) (hown.alloc _) ⟨w.heap.size, 0, none⟩ 1 1 (lfCs [⟨p, i, s, h, l⟩]) rfl
    (cells_new4 w 46 (lfCs [⟨p, i, s, h, l⟩])) (lfCs_one [⟨p, i, s, h, l⟩]) (by unfold maxLen; omega) (by omega) (by simp; omega)
  rw [← lfCs_app] at h2
  exact ⟨v', w', fun ty => hr, h2, h3⟩
set_option maxRecDepth 100000 in
set_option maxHeartbeats 4000000 in
theorem rleaves_bad (seed : ByteArray) (h : Int) (A : Option Addr) (c : Nat) (l : List Ac) (hm : l.length ≤ 1000000) (ho : AllAc l) (hz : ∀ x ∈ l, x.id.size ≤ 1000000 ∧ x.salt.size ≤ 1000000) (E : Int) (hE : wrongE seed h l = E) (h0 : E ≠ 0) (w : World) (hR : AcRow w w.heap.size A l) :
    Calls Tryd.prog 27 #[.string seed, .int .i64 h, .slice A l.length c] w (Tells (.tuple #[.slice none 0 0, .int .i64 E]) w.heap.size w) := by
  have cH := fun u => rhigh_any h u
  have cM := fun u hu => rmay_any A c l hm ho hz h u hu
  subst hE
  unfold wrongE at h0 ⊢
  cases k1 : shOk h with
  | false =>
    rw [k1] at cH
    rw [if_pos rfl]
    go_enter Tryd.func27, Tryd.ntmps27
    go_wp2_with (first | (go_at_call 41; refine (cH _).mono ?_; rintro e w1 ⟨rfl, rfl⟩) | fail)
    refine bodyPost_ret (results_tmp2 rfl _ _ _) rfl ?_
    exact ⟨rfl, by repeat (first | exact Below.refl _ _ | apply Below.drew | apply below_drewN | refine Below.alloc ?_ (by simp; try omega) _ | refine Below.setCell ?_ (by simp; try omega) _)⟩
  | true =>
    rw [k1] at cH
    rw [if_neg Bool.noConfusion]
    by_cases k2 : 64 < seed.size
    · have k2i : (64 : Int) < (seed.size : Int) := by omega
      rw [if_pos k2]
      go_enter Tryd.func27, Tryd.ntmps27
      go_wp2_with (first | (go_at_call 41; refine (cH _).mono ?_; rintro e w1 ⟨rfl, rfl⟩) | fail)
      refine bodyPost_ret (results_tmp2 rfl _ _ _) rfl ?_
      exact ⟨rfl, by repeat (first | exact Below.refl _ _ | apply Below.drew | apply below_drewN | refine Below.alloc ?_ (by simp; try omega) _ | refine Below.setCell ?_ (by simp; try omega) _)⟩
    · have k2i : ¬ ((64 : Int) < (seed.size : Int)) := by omega
      rw [if_neg k2]
      have k3 : mayA h l = false := by
        cases k3 : mayA h l with
        | false => rfl
        | true => exact absurd (by rw [k1, if_neg Bool.noConfusion, if_neg k2, k3]; rfl) h0
      rw [k3] at cM
      rw [k3, if_pos rfl]
      go_enter Tryd.func27, Tryd.ntmps27
      go_wp2_with (first
        | (go_at_call 41; refine (cH _).mono ?_; rintro e w1 ⟨rfl, rfl⟩)
        | (go_at_call 23; refine (cM _ hR).mono ?_; rintro e w2 ⟨rfl, j2⟩)
        | fail)
      refine bodyPost_ret (results_tmp2 rfl _ _ _) rfl ?_
      exact ⟨rfl, j2⟩
theorem range_snoc {α : Type} (f : Nat → α) (k : Nat) : (List.range (k + 1)).map f = (List.range k).map f ++ [f k] := by rw [List.range_succ, List.map_append]; rfl
set_option maxRecDepth 100000 in
set_option maxHeartbeats 8000000 in
theorem rleaves_any (seed : ByteArray) (h1 : seed.size ≤ 100000) (n : Nat) (A : Option Addr) (c : Nat) (l : List Ac) (hm : l.length ≤ 1000000) (ho : AllAc l) (hz : ∀ x ∈ l, x.id.size ≤ 1000000 ∧ x.salt.size ≤ 1000000) (hE : wrongE seed n l = 0) (N : Nat) (hN : pw n = (N : Int)) (w : World) (hR : AcRow w w.heap.size A l) :
    Calls Tryd.prog 27 #[.string seed, .int .i64 n, .slice A l.length c] w fun e w' => Below w.heap.size w w' ∧ ∃ A' c', e = .returned (.tuple #[.slice A' N c', .int .i64 0]) ∧ LfRow w' w'.heap.size A' (leavesL seed l N) := by
  have cH := fun u => rhigh_any n u
  have cM := fun u hu => rmay_any A c l hm ho hz n u hu
  obtain ⟨k1, k2, k3⟩ := wrong_no hE
  obtain ⟨n', hn', hn, -⟩ := mayA_P k3
  obtain rfl : n = n' := by omega
  have hpb := pw_bd n hn
  have cZ := fun u => rmany_any n hn u
  rw [hN] at hpb cZ
  rw [k1] at cH
  rw [k3] at cM
  have k2i : ¬ ((64 : Int) < (seed.size : Int)) := by omega
  have cA := fun m u hu => rAt_any A c l m (by omega) u hu
  have cL := fun x u => rleaf_any x u
  have cP := fun m hw u => rpad_any seed m h1 hw u
  clear hE k1 k2 k3 hn' hN
  obtain ⟨M, hM⟩ : ∃ M, l.length = M := ⟨_, rfl⟩
  rw [hM] at cM cA ⊢
  go_enter Tryd.func27, Tryd.ntmps27
  go_wp2_with (first
    | (go_at_call 41; refine (cH _).mono ?_; rintro e w1 ⟨rfl, rfl⟩)
    | (go_at_call 23; refine (cM _ hR).mono ?_; rintro e w2 ⟨rfl, j2⟩)
    | fail)
  clear cH cM
  go_loopg [8, 9] N (fun gk v i wr => ∃ k : Nat, k ≤ N ∧ N - k ≤ gk ∧ i = .int .u64 k ∧ wr.ownsRow w.heap.size 46 5 v k (lfCs ((List.range k).map (leafAt seed l))) ∧ Below w.heap.size w wr)
  case atStart => exact ⟨0, Nat.zero_le _, by omega, rfl, World.ownsRow_nil _ _ _ _, j2⟩
  case round =>
    obtain ⟨k, hk, hgk, rfl, O, hb⟩ := hrel
    have HG := hideIt hgk
    clear hgk
    by_cases hlt : k < N
    · have hlti : (k : Int) < (N : Int) := by omega
      have hkw : Word (k : Int) := ⟨by omega, by show (k : Int) < _; omega⟩
      have hw1 : IntKind.u64.wrap ((k : Int) + 1) = ((k + 1 : Nat) : Int) := by rw [IntKind.wrap_u64]; omega
      have hla : leafAt seed l k = if (atA l k).2 = true then lfA (atA l k).1 else padLf seed k := rfl
      have hrs := range_snoc (leafAt seed l) k
      have cA1 := cA (k : Int)
      obtain ⟨⟨a, f⟩, hf⟩ : ∃ V, atA l k = V := ⟨_, rfl⟩
      rw [hf] at hla cA1
      simp only at hla cA1
      have cL1 := cL a
      have cP1 := cP k hkw
      have R1 := (hR.call hb).more hb.size
      have hbs := hb.size
      obtain ⟨ia, ha, la, sa, na⟩ := a
      rw [show lfA ⟨ia, ha, la, sa, na⟩ = ⟨false, ia, sa, ha, la⟩ from rfl] at hla cL1
      obtain ⟨⟨pp, pi, ps, ph, pl⟩, hpl⟩ : ∃ V, padLf seed k = V := ⟨_, rfl⟩
      rw [hpl] at hla cP1
      simp only [Lf.val, Ac.val] at cA1 cL1 cP1
      have HLA := hideIt hla
      have HRS := hideIt hrs
      clear hla hrs hf hpl cA cL cP
      go_upto_region 12 with (first
        | (go_at_call 43; refine (cZ _).mono ?_; rintro e v0 ⟨rfl, rfl⟩)
        | (go_at_call 19; refine (cA1 _ R1).mono ?_; rintro e v1 ⟨rfl, j1⟩)
        | fail)
      have H1 := ((Has.start wr).call j1).add 38 (acB ia ha la sa na)
      change Code.wp _ _ _ _ (v1.alloc (.cells (acB ia ha la sa na) 38))
      have O1 := own_below O H1.below
      obtain ⟨ga, hga⟩ : ∃ g, v1.heap.size = g := ⟨_, rfl⟩
      rw [hga] at H1 ⊢
      generalize v1.alloc (.cells (acB ia ha la sa na) 38) = W1 at *
      have b1 := hb.trans (H1.below.mono hbs)
      clear O R1 j1 hga
      cases f with
      | true =>
        have e1 := HLA.out
        rw [if_pos rfl] at e1
        have HE := hideIt e1
        clear e1
        obtain ⟨r0, r1, r2, r3, r4, -⟩ := (H1.box 0).five
        have rin := (H1.box 0).inside
        go_upto_region 13 with fail
        go_wp2_with (first
          | (go_at_call 25; refine (cL1 _).mono ?_; rintro e v2 ⟨rfl, k2⟩
             have O2 := own_below O1 k2
             have b2 := b1.trans (k2.mono b1.size)
             obtain ⟨v', W', hr, O3, hg3⟩ := app_lf v2 w.heap.size _ _ _ O2 false ia sa ha la (by omega) b2.size
             have L3 := (chainA b2 (.cells #[.bool false, .string ia, .string sa, .int .u64 ha, .int .u64 la] 46)).grown hg3 (by simp; have := b2.size; omega) (fun j hj => (O2.lt j hj).1))
          | (at_builtin; refine wpList_run rfl _ _ _ rfl _ _ rfl rfl v' W' hr ?_)
          | fail)
        go_roundg (N - (k + 1))
        case measure => have := HG.out; omega
        case rel => exact ⟨k + 1, by omega, Nat.le_refl _, by first | rfl | go_num, by rw [HRS.out, HE.out]; exact O3, L3⟩
      | false =>
        have e1 := HLA.out
        rw [if_neg Bool.noConfusion] at e1
        have HE := hideIt e1
        clear e1
        go_wp2_with (first
          | (go_at_call 58; refine (cP1 _).mono ?_; rintro e v2 ⟨rfl, k2⟩
             have O2 := own_below O1 k2
             have b2 := b1.trans (k2.mono b1.size)
             obtain ⟨v', W', hr, O3, hg3⟩ := app_lf v2 w.heap.size _ _ _ O2 pp pi ps ph pl (by omega) b2.size
             have L3 := (chainA b2 (.cells #[.bool pp, .string pi, .string ps, .int .u64 ph, .int .u64 pl] 46)).grown hg3 (by simp; have := b2.size; omega) (fun j hj => (O2.lt j hj).1))
          | (at_builtin; refine wpList_run rfl _ _ _ rfl _ _ rfl rfl v' W' hr ?_)
          | fail)
        go_roundg (N - (k + 1))
        case measure => have := HG.out; omega
        case rel => exact ⟨k + 1, by omega, Nat.le_refl _, by first | rfl | go_num, by rw [HRS.out, HE.out]; exact O3, L3⟩
    · have e : k = N := by omega
      subst e
      have hLl : (leavesL seed l k).length = k := leaves_len seed l k
      have O4 : wr.ownsRow w.heap.size 46 5 u8 (leavesL seed l k).length (lfCs (leavesL seed l k)) := by rw [hLl]; exact O
      obtain ⟨A', c', e8, -, X⟩ := lfs_of_own O4
      rw [hLl] at e8
      subst e8
      clear O O4
      have hnl : ¬ ((k : Int) < (k : Int)) := by omega
      go_wp2_with (first
        | (go_at_call 43; refine (cZ _).mono ?_; rintro e v0 ⟨rfl, rfl⟩)
        | fail)
      refine bodyPost_ret (results_tmp2 rfl _ _ _) rfl ?_
      exact ⟨hb, A', c', rfl, X⟩
end Go.Proofs.YtngofpdpangajaaDoor
