/- Several of my texts, laid as one. -/
import Derived.Test.YtngofpdpangajaaDoorM12Set
import Derived.Test.YtngofpdpangajaaDoorU7Leaf
import Derived.Test.YtngofpdpangajaaDoorE7Same
import Derived.Test.YtngofpdpangajaaDoorM12Pln
import Derived.Test.YtngofpdpangajaaDoorM7Rid
import Derived.Deep.RegionHeld3
/-
  paymasterref12's Find, At, Many, High, Free, Leaf, walked.
-/
namespace Go.Proofs.YtngofpdpangajaaDoor
set_option linter.unusedVariables false
set_option linter.unusedSimpArgs false
set_option maxRecDepth 10000
open Go.RowKit Go.Sort

abbrev racB (i : ByteArray) (h l : Int) (s : ByteArray) (n : Int) : Array Value := #[.string i, .int .u64 h, .int .u64 l, .string s, .int .u64 n]
theorem rid_same (x : Ac) (s : ByteArray) : (x.id.toList == s.toList) = decide (keyA x = s.data.toList) := by
  rw [Lib.toList_data, Lib.toList_data]
  exact Bool.beq_eq_decide_eq _ _
set_option maxRecDepth 100000 in
set_option maxHeartbeats 2000000 in
theorem rFind_any (A : Option Addr) (c : Nat) (xs : List Ac) (s : ByteArray) (hm : xs.length ≤ 1000000000) (w : World) (hR : AcRow w w.heap.size A xs) :
    Calls Tryd.prog 17 #[.slice A xs.length c, .string s] w (Tells (.tuple #[(findA xs s.data.toList).1.val, .bool (findA xs s.data.toList).2]) w.heap.size w) := by
  unfold findA
  obtain ⟨V, hV⟩ : ∃ V : Ac × Bool, firstA (fun a => decide (keyA a = s.data.toList)) xs = V := ⟨_, rfl⟩
  rw [hV]
  have HV := hideIt hV
  clear hV
  have H0 := (Has.start w).add 38 (racB ⟨#[]⟩ 0 0 ⟨#[]⟩ 0)
  go_enter Tryd.func17, Tryd.ntmps17
  go_wp2
  change Code.wp _ _ _ _ (w.alloc (.cells (racB ⟨#[]⟩ 0 0 ⟨#[]⟩ 0) 38))
  generalize w.alloc (.cells (racB ⟨#[]⟩ 0 0 ⟨#[]⟩ 0) 38) = W at *
  go_loopg [6] xs.length (fun gk i wr => ∃ k : Nat, k ≤ xs.length ∧ xs.length - k ≤ gk ∧ i = .int .i64 k ∧ (∀ j y, j < k → xs[j]? = some y → (fun a : Ac => decide (keyA a = s.data.toList)) y = false) ∧ Has w [(w.heap.size, 38, racB ⟨#[]⟩ 0 0 ⟨#[]⟩ 0)] wr)
  case atStart => exact ⟨0, Nat.zero_le _, by omega, rfl, fun j y hj => absurd hj (Nat.not_lt_zero _), H0⟩
  case round =>
    obtain ⟨q, hq, hgk, rfl, hb, H⟩ := hrel
    have HG := hideIt hgk
    have HB := hideIt hb
    clear hgk hb
    obtain ⟨f0, f1, f2, f3, f4, s0, s1, s2, s3, s4, hin⟩ := (H.box 0).five
    by_cases hlt : q < xs.length
    · obtain ⟨x, hx⟩ : ∃ x, xs[q]? = some x := ⟨_, List.getElem?_eq_getElem hlt⟩
      obtain ⟨ad, rfl, had, p0, p1, p2, p3, p4⟩ := (hR.call H.below) q x hx
      have hlti : (q : Int) < (xs.length : Int) := by omega
      have p5 : (ad.add (q * 5)).block < wr.heap.size := by rw [o10_block]; exact Nat.lt_of_lt_of_le had H.size
      have HX := hideIt hx
      clear hx
      have he := rid_same x s
      obtain ⟨b, hp⟩ : ∃ b, (fun a : Ac => decide (keyA a = s.data.toList)) x = b := ⟨_, rfl⟩
      have hp' := hp
      simp only at hp'
      rw [hp'] at he
      have HP := hideIt hp
      clear hp hp'
      cases b with
      | true =>
        have HF := hideIt (firstA_hit (p := fun a : Ac => decide (keyA a = s.data.toList)) HB.out HX.out HP.out)
        clear HP
        go_wp2
        have B3 := box5_put (H.box 0) (.string x.id) (.int .u64 x.h) (.int .u64 x.l) (.string x.salt) (.int .u64 x.slot)
        have L3 := below5_put H.below (Nat.le_refl _) 0 1 2 3 4 (.string x.id) (.int .u64 x.h) (.int .u64 x.l) (.string x.salt) (.int .u64 x.slot)
        obtain ⟨e0, e1, e2, e3, e4, -⟩ := B3.five
        have e := HF.out
        rw [HV.out] at e
        subst e
        exact bodyPost_ret (v := .tuple #[x.val, .bool true]) (by simp [results, Tryd.results17, go_sem, Ac.val, e0, e1, e2, e3, e4]) rfl ⟨rfl, L3⟩
      | false =>
        go_wp2
        go_roundg (xs.length - (q + 1))
        case measure => have := HG.out; omega
        case rel => exact ⟨q + 1, by omega, Nat.le_refl _, by go_num, fun j y hj hy => by
          by_cases e : j = q
          · subst e
            rw [HX.out] at hy
            injection hy with hy
            subst hy
            exact HP.out
          · exact HB.out j y (by omega) hy, H⟩
    · have e : q = xs.length := by omega
      subst e
      have HF := hideIt (firstA_none (p := fun a : Ac => decide (keyA a = s.data.toList)) HB.out)
      go_wp2
      have B3 := box5_put (H.box 0) (.string ⟨#[]⟩) (.int .u64 0) (.int .u64 0) (.string ⟨#[]⟩) (.int .u64 0)
      have L3 := below5_put H.below (Nat.le_refl _) 0 1 2 3 4 (.string ⟨#[]⟩) (.int .u64 0) (.int .u64 0) (.string ⟨#[]⟩) (.int .u64 0)
      obtain ⟨e0, e1, e2, e3, e4, -⟩ := B3.five
      have e := HF.out
      rw [HV.out] at e
      subst e
      exact bodyPost_ret (v := .tuple #[Ac.zero.val, .bool false]) (by simp [results, Tryd.results17, go_sem, Ac.val, Ac.zero, e0, e1, e2, e3, e4]) rfl ⟨rfl, L3⟩
set_option maxRecDepth 100000 in
set_option maxHeartbeats 2000000 in
theorem rAt_any (A : Option Addr) (c : Nat) (xs : List Ac) (m : Int) (hm : xs.length ≤ 1000000000) (w : World) (hR : AcRow w w.heap.size A xs) :
    Calls Tryd.prog 19 #[.slice A xs.length c, .int .u64 m] w (Tells (.tuple #[(atA xs m).1.val, .bool (atA xs m).2]) w.heap.size w) := by
  unfold atA
  obtain ⟨V, hV⟩ : ∃ V : Ac × Bool, firstA (fun a => decide (a.slot = m)) xs = V := ⟨_, rfl⟩
  rw [hV]
  have HV := hideIt hV
  clear hV
  have H0 := (Has.start w).add 38 (racB ⟨#[]⟩ 0 0 ⟨#[]⟩ 0)
  go_enter Tryd.func19, Tryd.ntmps19
  go_wp2
  change Code.wp _ _ _ _ (w.alloc (.cells (racB ⟨#[]⟩ 0 0 ⟨#[]⟩ 0) 38))
  generalize w.alloc (.cells (racB ⟨#[]⟩ 0 0 ⟨#[]⟩ 0) 38) = W at *
  go_loopg [6] xs.length (fun gk i wr => ∃ k : Nat, k ≤ xs.length ∧ xs.length - k ≤ gk ∧ i = .int .i64 k ∧ (∀ j y, j < k → xs[j]? = some y → (fun a : Ac => decide (a.slot = m)) y = false) ∧ Has w [(w.heap.size, 38, racB ⟨#[]⟩ 0 0 ⟨#[]⟩ 0)] wr)
  case atStart => exact ⟨0, Nat.zero_le _, by omega, rfl, fun j y hj => absurd hj (Nat.not_lt_zero _), H0⟩
  case round =>
    obtain ⟨q, hq, hgk, rfl, hb, H⟩ := hrel
    have HG := hideIt hgk
    have HB := hideIt hb
    clear hgk hb
    obtain ⟨f0, f1, f2, f3, f4, s0, s1, s2, s3, s4, hin⟩ := (H.box 0).five
    by_cases hlt : q < xs.length
    · obtain ⟨x, hx⟩ : ∃ x, xs[q]? = some x := ⟨_, List.getElem?_eq_getElem hlt⟩
      obtain ⟨ad, rfl, had, p0, p1, p2, p3, p4⟩ := (hR.call H.below) q x hx
      have hlti : (q : Int) < (xs.length : Int) := by omega
      have p5 : (ad.add (q * 5)).block < wr.heap.size := by rw [o10_block]; exact Nat.lt_of_lt_of_le had H.size
      have HX := hideIt hx
      clear hx
      have he := (show (x.slot == m) = decide (x.slot = m) from Bool.beq_eq_decide_eq _ _)
      obtain ⟨b, hp⟩ : ∃ b, (fun a : Ac => decide (a.slot = m)) x = b := ⟨_, rfl⟩
      have hp' := hp
      simp only at hp'
      rw [hp'] at he
      have HP := hideIt hp
      clear hp hp'
      cases b with
      | true =>
        have HF := hideIt (firstA_hit (p := fun a : Ac => decide (a.slot = m)) HB.out HX.out HP.out)
        clear HP
        go_wp2
        have B3 := box5_put (H.box 0) (.string x.id) (.int .u64 x.h) (.int .u64 x.l) (.string x.salt) (.int .u64 x.slot)
        have L3 := below5_put H.below (Nat.le_refl _) 0 1 2 3 4 (.string x.id) (.int .u64 x.h) (.int .u64 x.l) (.string x.salt) (.int .u64 x.slot)
        obtain ⟨e0, e1, e2, e3, e4, -⟩ := B3.five
        have e := HF.out
        rw [HV.out] at e
        subst e
        exact bodyPost_ret (v := .tuple #[x.val, .bool true]) (by simp [results, Tryd.results19, go_sem, Ac.val, e0, e1, e2, e3, e4]) rfl ⟨rfl, L3⟩
      | false =>
        go_wp2
        go_roundg (xs.length - (q + 1))
        case measure => have := HG.out; omega
        case rel => exact ⟨q + 1, by omega, Nat.le_refl _, by go_num, fun j y hj hy => by
          by_cases e : j = q
          · subst e
            rw [HX.out] at hy
            injection hy with hy
            subst hy
            exact HP.out
          · exact HB.out j y (by omega) hy, H⟩
    · have e : q = xs.length := by omega
      subst e
      have HF := hideIt (firstA_none (p := fun a : Ac => decide (a.slot = m)) HB.out)
      go_wp2
      have B3 := box5_put (H.box 0) (.string ⟨#[]⟩) (.int .u64 0) (.int .u64 0) (.string ⟨#[]⟩) (.int .u64 0)
      have L3 := below5_put H.below (Nat.le_refl _) 0 1 2 3 4 (.string ⟨#[]⟩) (.int .u64 0) (.int .u64 0) (.string ⟨#[]⟩) (.int .u64 0)
      obtain ⟨e0, e1, e2, e3, e4, -⟩ := B3.five
      have e := HF.out
      rw [HV.out] at e
      subst e
      exact bodyPost_ret (v := .tuple #[Ac.zero.val, .bool false]) (by simp [results, Tryd.results19, go_sem, Ac.val, Ac.zero, e0, e1, e2, e3, e4]) rfl ⟨rfl, L3⟩
theorem rhigh_any (h : Int) (w : World) : Calls Tryd.prog 41 #[.int .i64 h] w (Plain (.bool (shOk h)) w) := by
  unfold shOk
  by_cases h0 : 0 ≤ h
  · have h3 : ¬ (h < 0) := by omega
    by_cases h1 : h ≤ 10
    · rw [decide_eq_true ⟨h0, h1⟩]
      have h2 : ¬ (10 < h) := by omega
      go_enter Tryd.func41, Tryd.ntmps41
      go_wp2
      go_ret
      exact ⟨rfl, rfl⟩
    · rw [decide_eq_false (fun k => h1 k.2)]
      have h2 : 10 < h := by omega
      go_enter Tryd.func41, Tryd.ntmps41
      go_wp2
      go_ret
      exact ⟨rfl, rfl⟩
  · rw [decide_eq_false (fun k => h0 k.1)]
    have h2 : h < 0 := by omega
    go_enter Tryd.func41, Tryd.ntmps41
    go_wp2
    go_ret
    exact ⟨rfl, rfl⟩
theorem pw_succ (k : Nat) (hk : k < 10) : IntKind.u64.wrap (2 * pw k) = pw (k + 1) := by
  have h1 : pw (k + 1) = 2 * pw k := by unfold pw; rw [Int.pow_succ]; omega
  have h2 := pw_bd (k + 1) (by omega)
  rw [← h1, IntKind.wrap_u64]
  omega
set_option maxHeartbeats 1000000 in
theorem rmany_any (h : Nat) (hh : h ≤ 10) (w : World) : Calls Tryd.prog 43 #[.int .i64 h] w (Plain (.int .u64 (pw h)) w) := by
  have h0 : pw 0 = 1 := rfl
  have hs := fun k hk => pw_succ k hk
  generalize pw = f at *
  go_enter Tryd.func43, Tryd.ntmps43
  go_wp2
  go_loopg [3, 4] h (fun gk v i wr => ∃ k : Nat, k ≤ h ∧ h - k ≤ gk ∧ v = .int .u64 (f k) ∧ i = .int .i64 k ∧ wr = w)
  case atStart => exact ⟨0, Nat.zero_le _, by omega, by rw [h0], rfl, rfl⟩
  case round =>
    obtain ⟨k, hk, hgk, rfl, rfl, rfl⟩ := hrel
    have HG := hideIt hgk
    clear hgk
    by_cases hlt : k < h
    · have hlti : (k : Int) < (h : Int) := by omega
      have hw := hs k (by omega)
      clear hs
      go_wp2
      go_roundg (h - (k + 1))
      case measure => have := HG.out; omega
      case rel => exact ⟨k + 1, by omega, Nat.le_refl _, rfl, by go_num, rfl⟩
    · have e : k = h := by omega
      subst e
      clear hs
      go_wp2
      go_ret
      exact ⟨rfl, rfl⟩
set_option maxRecDepth 100000 in
set_option maxHeartbeats 2000000 in
theorem rfree_any (A : Option Addr) (c : Nat) (xs : List Ac) (hm : xs.length ≤ 1000000) (h : Nat) (hh : h ≤ 10) (f : Int) (hf : Word f) (w : World) (hR : AcRow w w.heap.size A xs) :
    Calls Tryd.prog 21 #[.slice A xs.length c, .int .i64 h, .int .u64 f] w (Tells (.tuple #[.int .u64 (freeF (pw h) (xs.map Ac.slot) f).1, .bool (freeF (pw h) (xs.map Ac.slot) f).2]) w.heap.size w) := by
  have cH := fun u => rhigh_any h u
  rw [show shOk h = true from decide_eq_true ⟨by omega, by omega⟩] at cH
  have cS := fun u => rmany_any h hh u
  have cA := fun n u hu => rAt_any A c xs n (by omega) u hu
  have hhas := fun n => at_has xs n
  have hA := pw_bd h hh
  obtain ⟨ks, hks⟩ : ∃ ks, xs.map Ac.slot = ks := ⟨_, rfl⟩
  rw [hks] at hhas ⊢
  have hit := fun (s : Nat) (x : ∀ j, j < s → sq (pw h) f j ∈ ks) (y : (s : Int) < pw h) (z : sq (pw h) f s ∉ ks) => freeF_hit x y z
  have hno := fun (x : ∀ j : Nat, (j : Int) < pw h → sq (pw h) f j ∈ ks) => freeF_none x
  have hsb := fun s => sq_bd (A := pw h) (by omega) f s
  have hst := fun s => sq_step (pw h) f s
  have hs0 := sq_zero (pw h) f
  generalize freeF (pw h) ks f = V at *
  generalize sq (pw h) f = S at *
  have hr : f.tmod (pw h) = S 0 := by rw [hs0]; exact Int.tmod_eq_emod_of_nonneg hf.1
  generalize pw h = A2 at *
  have hA0 : ¬ A2 = 0 := by omega
  have HH := hideIt hit
  have HN := hideIt hno
  clear hit hno hs0 hks
  have hw0 : IntKind.u64.wrap (S 0) = S 0 := by have := hsb 0; rw [IntKind.wrap_u64]; omega
  generalize xs.length = N at *
  go_enter Tryd.func21, Tryd.ntmps21
  go_wp2_with (first
    | (go_at_call 41; refine (cH _).mono ?_; rintro e v1 ⟨rfl, rfl⟩)
    | (go_at_call 43; refine (cS _).mono ?_; rintro e v1 ⟨rfl, rfl⟩)
    | fail)
  clear hr hw0
  go_loopg [9, 10, 11, 12] A2.toNat (fun gk n i _ _ wr => ∃ s : Nat, (s : Int) ≤ A2 ∧ A2.toNat - s ≤ gk ∧ n = .int .u64 (S s) ∧ i = .int .u64 s ∧ (∀ j, j < s → S j ∈ ks) ∧ Below w.heap.size w wr)
  case atStart => exact ⟨0, by omega, by omega, rfl, rfl, fun j hj => absurd hj (Nat.not_lt_zero _), Below.refl _ _⟩
  case round =>
    obtain ⟨s, hs, hgk, rfl, rfl, hb, hbl⟩ := hrel
    have HG := hideIt hgk
    have HB := hideIt hb
    clear hgk hb
    by_cases hlt : (s : Int) < A2
    · obtain ⟨n, hn⟩ : ∃ n, S s = n := ⟨_, rfl⟩
      obtain ⟨n2, hn2⟩ : ∃ n, S (s + 1) = n := ⟨_, rfl⟩
      have hnb := hsb s
      have hnb2 := hsb (s + 1)
      have hst1 := hst s
      rw [hn] at hnb hst1
      rw [hn2] at hnb2 hst1
      rw [hn]
      obtain ⟨n1, hn1⟩ : ∃ m, n + 1 = m := ⟨_, rfl⟩
      have w2 : IntKind.u64.wrap (n + 1) = n1 := by rw [IntKind.wrap_u64]; omega
      have w3 : n1.tmod A2 = n2 := by rw [← hn1, ← hst1]; exact Int.tmod_eq_emod_of_nonneg (by omega)
      have w5 : IntKind.u64.wrap n2 = n2 := by rw [IntKind.wrap_u64]; omega
      have w4 : IntKind.u64.wrap ((s : Int) + 1) = ((s + 1 : Nat) : Int) := by rw [IntKind.wrap_u64]; omega
      have cA1 := cA n
      have hh1 := hhas n
      obtain ⟨⟨a, b⟩, hab⟩ : ∃ V : Ac × Bool, atA xs n = V := ⟨_, rfl⟩
      rw [hab] at cA1 hh1
      simp only [Ac.val] at cA1 hh1
      have HNN := hideIt hn
      have HN2 := hideIt hn2
      clear hn hn2 hn1 hst1 hab cA hhas
      cases b with
      | true =>
        have hm := of_decide_eq_true hh1.symm
        clear hh1
        go_wp2_with (first
          | (go_at_call 19; refine (cA1 _ ((hR.call hbl).more hbl.size)).mono ?_; rintro e v2 ⟨rfl, j2⟩)
          | fail)
        go_roundg (A2.toNat - (s + 1))
        case measure => have := HG.out; omega
        case rel => exact ⟨s + 1, by omega, Nat.le_refl _, by rw [HN2.out], rfl, fun j hj => by
            by_cases e : j = s
            · subst e; rw [HNN.out]; exact hm
            · exact HB.out j (by omega), (chain hbl j2).alloc (by have := hbl.size; have := j2.size; omega) _⟩
      | false =>
        have hm := of_decide_eq_false hh1.symm
        clear hh1
        have hv := HH.out s HB.out hlt (by rw [HNN.out]; exact hm)
        rw [HNN.out] at hv
        have HV := hideIt hv
        clear hv
        go_wp2_with (first
          | (go_at_call 19; refine (cA1 _ ((hR.call hbl).more hbl.size)).mono ?_; rintro e v2 ⟨rfl, j2⟩)
          | fail)
        refine bodyPost_ret (results_tmp2 rfl _ _ _) rfl ?_
        rw [HV.out]
        exact ⟨rfl, (chain hbl j2).alloc (by have := hbl.size; have := j2.size; omega) _⟩
    · have hv := HN.out (fun j hj => HB.out j (by omega))
      have HV := hideIt hv
      clear hv
      go_wp2
      refine bodyPost_ret (results_tmp2 rfl _ _ _) rfl ?_
      rw [HV.out]
      exact ⟨rfl, hbl⟩
theorem rfree_no (A : Option Addr) (c n : Nat) (h f : Int) (hk : shOk h = false) (w : World) :
    Calls Tryd.prog 21 #[.slice A n c, .int .i64 h, .int .u64 f] w (Tells (.tuple #[.int .u64 0, .bool false]) w.heap.size w) := by
  have cH := fun u => rhigh_any h u
  rw [hk] at cH
  go_enter Tryd.func21, Tryd.ntmps21
  go_wp2_with (first
    | (go_at_call 41; refine (cH _).mono ?_; rintro e v1 ⟨rfl, rfl⟩)
    | fail)
  refine bodyPost_ret (results_tmp2 rfl _ _ _) rfl ?_
  exact ⟨rfl, Below.refl _ _⟩
set_option maxHeartbeats 1000000 in
theorem rleaf_any (x : Ac) (w : World) : Calls Tryd.prog 25 #[x.val] w (Tells (lfA x).val w.heap.size w) := by
  obtain ⟨i, h, l, s, n⟩ := x
  have H0 : Has w [(w.heap.size + 1, 46, lfB false ⟨#[]⟩ ⟨#[]⟩ 0 0), (w.heap.size, 38, racB i h l s n)] ((w.alloc (.cells (racB i h l s n) 38)).alloc (.cells (lfB false ⟨#[]⟩ ⟨#[]⟩ 0 0) 46)) :=
    ((Has.start w).add 38 (racB i h l s n)).addAt 46 (lfB false ⟨#[]⟩ ⟨#[]⟩ 0 0) (by simp)
  go_enter Tryd.func25, Tryd.ntmps25
  go_upto_region 1 with fail
  change Code.wp _ _ _ _ ((w.alloc (.cells (racB i h l s n) 38)).alloc (.cells (lfB false ⟨#[]⟩ ⟨#[]⟩ 0 0) 46))
  generalize (w.alloc (.cells (racB i h l s n) 38)).alloc (.cells (lfB false ⟨#[]⟩ ⟨#[]⟩ 0 0) 46) = W at *
  obtain ⟨q0, q1, q2, q3, q4, -, -, -, -, -, hin0⟩ := (H0.box 1).five
  obtain ⟨⟨y0, y1, y2, y3, y4⟩, ⟨g0, g1, g2, g3, g4⟩, hin1⟩ := (H0.box 0).five0
  go_wp2
  have BX := (H0.box 0).put5 (.bool false) (.string i) (.string s) (.int .u64 h) (.int .u64 l)
  have LX := below_put5 (g := w.heap.size + 1) H0.below (by omega) (.bool false) (.string i) (.string s) (.int .u64 h) (.int .u64 l)
  generalize World.setCell (World.setCell (World.setCell (World.setCell (World.setCell W _ _) _ _) _ _) _ _) _ _ = X at *
  obtain ⟨⟨x0, x1, x2, x3, x4⟩, -, hgx⟩ := BX.five0
  exact bodyPost_ret (v := (lfA ⟨i, h, l, s, n⟩).val) (by simp [results, Tryd.results25, go_sem, Lf.val, lfA, x0, x1, x2, x3, x4]) rfl ⟨rfl, LX⟩
end Go.Proofs.YtngofpdpangajaaDoor
/-
  paymasterref12's May, walked.
-/
namespace Go.Proofs.YtngofpdpangajaaDoor
set_option linter.unusedVariables false
set_option linter.unusedSimpArgs false
set_option maxRecDepth 10000
open Go.RowKit Go.Sort

theorem key_same2 (x y : Ac) : (x.id.toList == y.id.toList) = decide (keyA x = keyA y) := by
  rw [Lib.toList_data, Lib.toList_data]
  exact Bool.beq_eq_decide_eq _ _
/-- Of the first ones some one is like it. -/
def seenA (l : List Ac) (x : Ac) : Bool := l.any fun y => decide (keyA y = keyA x) || decide (y.slot = x.slot)
theorem seenA_no {l : List Ac} {x : Ac} : seenA l x = false ↔ keyA x ∉ l.map keyA ∧ x.slot ∉ l.map Ac.slot := by
  unfold seenA
  rw [List.any_eq_false]
  simp only [Bool.or_eq_true, decide_eq_true_eq, not_or, List.mem_map, not_exists, not_and]
  constructor
  · intro h
    exact ⟨fun y hy => (h y hy).1, fun y hy => (h y hy).2⟩
  · intro h y hy
    exact ⟨h.1 y hy, h.2 y hy⟩
set_option maxRecDepth 100000 in
set_option maxHeartbeats 4000000 in
theorem rmay_any (A : Option Addr) (c : Nat) (xs : List Ac) (hm : xs.length ≤ 1000000) (ho : AllAc xs) (hz : ∀ x ∈ xs, x.id.size ≤ 1000000 ∧ x.salt.size ≤ 1000000) (h : Int) (w : World) (hR : AcRow w w.heap.size A xs) :
    Calls Tryd.prog 23 #[.slice A xs.length c, .int .i64 h] w (Tells (.bool (mayA h xs)) w.heap.size w) := by
  have cMH := fun u => rhigh_any h u
  unfold mayA
  cases hk : shOk h with
  | false =>
    rw [hk] at cMH
    rw [Bool.false_and]
    go_enter Tryd.func23, Tryd.ntmps23
    go_wp2_with (first | (go_at_call 41; refine (cMH _).mono ?_; rintro e v1 ⟨rfl, rfl⟩) | fail)
    go_ret
    exact ⟨rfl, Below.refl _ _⟩
  | true =>
    rw [hk] at cMH
    rw [Bool.true_and]
    have hb := of_decide_eq_true hk
    obtain ⟨n, rfl⟩ := Int.eq_ofNat_of_zero_le hb.1
    rw [Int.toNat_natCast]
    have cS := fun u => rmany_any n (by omega) u
    obtain ⟨P, hP⟩ : ∃ P, pw n = P := ⟨_, rfl⟩
    rw [hP] at cS ⊢
    obtain ⟨V, hV⟩ : ∃ V, decide (MayP P xs) = V := ⟨_, rfl⟩
    rw [hV]
    have HV := hideIt hV
    have HP0 := hideIt (mayP_nil P)
    clear hV hP hk hb
    obtain ⟨N, hN⟩ : ∃ N, xs.length = N := ⟨_, rfl⟩
    rw [hN]
    go_enter Tryd.func23, Tryd.ntmps23
    go_wp2_with (first | (go_at_call 41; refine (cMH _).mono ?_; rintro e v1 ⟨rfl, rfl⟩) | fail)
    clear cMH
    go_loopg [5, 6] N (fun gk i _ wr => ∃ k : Nat, k ≤ N ∧ N - k ≤ gk ∧ i = .int .i64 k ∧ Below w.heap.size w wr ∧ Hid (MayP P (xs.take k)))
    case atStart => exact ⟨0, Nat.zero_le _, by omega, rfl, Below.refl _ _, HP0⟩
    case round =>
      obtain ⟨k, hk, hgk, rfl, hb, HM⟩ := hrel
      have HG := hideIt hgk
      clear hgk
      by_cases hlt : k < N
      · obtain ⟨x, hx⟩ : ∃ x, xs[k]? = some x := ⟨_, List.getElem?_eq_getElem (by omega)⟩
        obtain ⟨ad, hA, had, p0, p1, p2, p3, p4⟩ := (hR.call hb) k x hx
        subst hA
        have hlti : (k : Int) < (N : Int) := by omega
        have p5 : (ad.add (k * 5)).block < wr.heap.size := by rw [o10_block]; exact Nat.lt_of_lt_of_le had hb.size
        obtain ⟨z1, z2⟩ := hz x (List.mem_of_getElem? hx)
        have cI := fun u => rmayId_any x.id (by omega) u
        have hdef := okA_def P x
        have hat := fun hM => mayP_at (A := P) (xs := xs) hM hx
        have hstep := fun h1 h2 h3 => mayP_step (A := P) HM.out hx h1 h2 h3
        have HAT := hideIt hat
        have HST := hideIt hstep
        have HX := hideIt hx
        clear hat hstep hx HM
        change okA P x = (isId x.id.data.toList && _) at hdef
        generalize isId x.id.data.toList = t1 at *
        obtain ⟨t2, ht2⟩ : ∃ b, decide (x.slot < P) = b := ⟨_, rfl⟩
        obtain ⟨t3, ht3⟩ : ∃ b, decide (x.salt.size ≤ 32) = b := ⟨_, rfl⟩
        rw [ht2, ht3] at hdef
        generalize okA P x = t0 at *
        have HD := hideIt hdef
        clear hdef
        have hmx : (ad.add (k * 5)).block < wr.drew.heap.size := p5
        have hI3 : ((x.salt.size : Int) ≤ 32) ↔ x.salt.size ≤ 32 := by omega
        go_upto_region 6 with fail
        go_cut [41] from 16 to 41 (fun s41 wx => s41 = .bool (!t0) ∧ Below wr.heap.size wr wx)
        case first =>
          cases t1 with
          | false =>
            have e := HD.out
            simp only [Bool.false_and] at e
            subst e
            go_quiet (first
              | (go_at_call 56; exact Calls.quiet_of_same ((cI _).mono (fun _ _ h => ⟨h.1, h.2.symm⟩)))
              | (go_at_call 43; exact Calls.quiet_of_same ((cS _).mono (fun _ _ h => ⟨h.1, h.2.symm⟩)))
              | fail)
            all_goals go_wp2_with fail
            all_goals go_meet
            all_goals exact ⟨rfl, below_drewN (Below.refl _ _) _⟩
          | true =>
            cases t2 with
            | false =>
              have e := HD.out
              simp only [Bool.and_false, Bool.true_and] at e
              subst e
              have hs : P ≤ x.slot := by have := of_decide_eq_false ht2; omega
              go_quiet (first
                | (go_at_call 56; exact Calls.quiet_of_same ((cI _).mono (fun _ _ h => ⟨h.1, h.2.symm⟩)))
                | (go_at_call 43; exact Calls.quiet_of_same ((cS _).mono (fun _ _ h => ⟨h.1, h.2.symm⟩)))
                | fail)
              all_goals go_wp2_with fail
              all_goals go_meet
              all_goals exact ⟨rfl, below_drewN (Below.refl _ _) _⟩
            | true =>
              have e := HD.out
              simp only [Bool.and_true, Bool.true_and] at e
              subst e
              have hs : ¬ (P ≤ x.slot) := by have := of_decide_eq_true ht2; omega
              cases t0 with
              | true =>
                have h3 : ¬ (32 < (x.salt.size : Int)) := by have := of_decide_eq_true ht3; omega
                go_quiet (first
                  | (go_at_call 56; exact Calls.quiet_of_same ((cI _).mono (fun _ _ h => ⟨h.1, h.2.symm⟩)))
                  | (go_at_call 43; exact Calls.quiet_of_same ((cS _).mono (fun _ _ h => ⟨h.1, h.2.symm⟩)))
                  | fail)
                all_goals go_wp2_with fail
                all_goals go_meet
                all_goals exact ⟨rfl, below_drewN (Below.refl _ _) _⟩
              | false =>
                have h3 : 32 < (x.salt.size : Int) := by have := of_decide_eq_false ht3; omega
                go_quiet (first
                  | (go_at_call 56; exact Calls.quiet_of_same ((cI _).mono (fun _ _ h => ⟨h.1, h.2.symm⟩)))
                  | (go_at_call 43; exact Calls.quiet_of_same ((cS _).mono (fun _ _ h => ⟨h.1, h.2.symm⟩)))
                  | fail)
                all_goals go_wp2_with fail
                all_goals go_meet
                all_goals exact ⟨rfl, below_drewN (Below.refl _ _) _⟩
        case rest =>
          obtain ⟨rfl, hbc⟩ := hcut
          have hb2 := hb.trans (hbc.mono hb.size)
          clear HD ht2 ht3 cI cS hI3 p0 p1 p2 p3 p4 p5 hmx
          cases t0 with
          | false =>
            have hno : V = false := by
              rw [← HV.out]
              exact decide_eq_false fun hM => Bool.noConfusion (HAT.out hM).1
            subst hno
            go_wp2
            go_ret
            exact ⟨rfl, hb2⟩
          | true =>
            generalize wc = W at *
            go_upto_region 9 with fail
            go_loopg [6] k (fun gq i wq => ∃ q : Nat, q ≤ k ∧ k - q ≤ gq ∧ i = .int .i64 q ∧ Below W.heap.size W wq ∧ Hid (∀ j y, j < q → xs[j]? = some y → keyA y ≠ keyA x ∧ y.slot ≠ x.slot))
            case atStart => exact ⟨0, Nat.zero_le _, by omega, rfl, Below.refl _ _, fun j y hj => absurd hj (Nat.not_lt_zero _)⟩
            case round =>
              rename World => wq
              obtain ⟨q, hq, hgq, rfl, hbq, HB⟩ := hrel
              have HGq := hideIt hgq
              clear hgq
              have hbz := hb2.trans (hbq.mono hb2.size)
              by_cases hltq : q < k
              · obtain ⟨y, hy⟩ : ∃ y, xs[q]? = some y := ⟨_, List.getElem?_eq_getElem (by omega)⟩
                obtain ⟨_, hA, had1, x0, -, -, -, x4⟩ := (hR.call hbz) k x HX.out
                cases hA
                obtain ⟨_, hA, -, y0, -, -, -, y4⟩ := (hR.call hbz) q y hy
                cases hA
                have hltiq : (q : Int) < (k : Int) := by omega
                have hqN : (q : Int) < (N : Int) := by omega
                have x5 : (ad.add (k * 5)).block < wq.heap.size := by rw [o10_block]; exact Nat.lt_of_lt_of_le had1 hbz.size
                have y5 : (ad.add (q * 5)).block < wq.heap.size := by rw [o10_block]; exact Nat.lt_of_lt_of_le had1 hbz.size
                have e1 := key_same2 y x
                obtain ⟨s1, hs1⟩ : ∃ b, decide (keyA y = keyA x) = b := ⟨_, rfl⟩
                obtain ⟨s2, hs2⟩ : ∃ b, decide (y.slot = x.slot) = b := ⟨_, rfl⟩
                rw [hs1] at e1
                have e2 : (y.slot == x.slot) = s2 := by rw [← hs2]; exact Bool.beq_eq_decide_eq _ _
                have HS1 := hideIt hs1
                have HS2 := hideIt hs2
                have HY := hideIt hy
                clear hs1 hs2 hy
                cases s1 with
                | true =>
                  have hno : V = false := by
                    rw [← HV.out]
                    refine decide_eq_false fun hM => (HAT.out hM).2.1 ?_
                    rw [← of_decide_eq_true HS1.out]
                    refine List.mem_map_of_mem (List.mem_of_getElem? (i := q) ?_)
                    rw [List.getElem?_take_of_lt hltq]
                    exact HY.out
                  subst hno
                  go_upto_region 11 with fail
                  go_quiet (fail)
                  go_wp2
                  go_ret
                  exact ⟨rfl, below_drewN hbz _⟩
                | false =>
                  cases s2 with
                  | true =>
                    have hno : V = false := by
                      rw [← HV.out]
                      refine decide_eq_false fun hM => (HAT.out hM).2.2 ?_
                      rw [← of_decide_eq_true HS2.out]
                      refine List.mem_map_of_mem (List.mem_of_getElem? (i := q) ?_)
                      rw [List.getElem?_take_of_lt hltq]
                      exact HY.out
                    subst hno
                    go_upto_region 11 with fail
                    go_quiet (fail)
                    go_wp2
                    go_ret
                    exact ⟨rfl, below_drewN hbz _⟩
                  | false =>
                    go_upto_region 11 with fail
                    go_quiet (fail)
                    go_wp2
                    go_roundg (k - (q + 1))
                    case measure => have := HGq.out; omega
                    case rel => exact ⟨q + 1, by omega, Nat.le_refl _, by go_num, below_drewN hbq _, fun j z hj hz2 => by
                      by_cases e : j = q
                      · subst e
                        rw [HY.out] at hz2
                        injection hz2 with hz2
                        subst hz2
                        exact ⟨of_decide_eq_false HS1.out, of_decide_eq_false HS2.out⟩
                      · exact HB.out j z (by omega) hz2⟩
              · have e : q = k := by omega
                subst e
                have hall : MayP P (xs.take (q + 1)) := by
                  refine HST.out (by trivial) (fun hm => ?_) (fun hm => ?_)
                  · obtain ⟨y, hy, e⟩ := List.mem_map.1 hm
                    obtain ⟨j, hj, e2⟩ := List.getElem_of_mem hy
                    rw [List.length_take] at hj
                    rw [List.getElem_take] at e2
                    exact (HB.out j y (by omega) (by rw [← e2]; exact List.getElem?_eq_getElem _)).1 e
                  · obtain ⟨y, hy, e⟩ := List.mem_map.1 hm
                    obtain ⟨j, hj, e2⟩ := List.getElem_of_mem hy
                    rw [List.length_take] at hj
                    rw [List.getElem_take] at e2
                    exact (HB.out j y (by omega) (by rw [← e2]; exact List.getElem?_eq_getElem _)).2 e
                have HALL := hideIt hall
                clear hall
                go_wp2
                go_roundg (N - (q + 1))
                case measure => have := HG.out; omega
                case rel => exact ⟨q + 1, by omega, Nat.le_refl _, by go_num, hbz, HALL⟩
      · have e : k = N := by omega
        subst e
        have hM := HM.out
        rw [List.take_of_length_le (by omega)] at hM
        have hv := HV.out
        rw [decide_eq_true hM] at hv
        subst hv
        go_wp2
        go_ret
        exact ⟨rfl, hb⟩
end Go.Proofs.YtngofpdpangajaaDoor
