/-
  paymasterref12's Find, At, Many, High, Free, Leaf, walked.
-/
import Derived.Test.YtngofpdpangajaaDoorU12Set
import Derived.Test.YtngofpdpangajaaDoorU7Leaf
import Derived.Test.YtngofpdpangajaaDoorE7Same
namespace Go.Proofs.YtngofpdpangajaaDoor
set_option linter.unusedVariables false
set_option linter.unusedSimpArgs false
set_option maxRecDepth 10000
open Go.RowKit Go.Sort

abbrev racB (i : ByteArray) (h l : Int) (s : ByteArray) (n : Int) : Array Value := #[.string i, .int .u64 h, .int .u64 l, .string s, .int .u64 n]
theorem rid_same (x : Ac) (s : ByteArray) : (x.id.toList == s.toList) = decide (keyA x = s.data.toList) := by
  rw [Lib.toList_data, Lib.toList_data]
  exact Bool.beq_eq_decide_eq _ _
set_option maxRecDepth 100000 in
set_option maxHeartbeats 2000000 in
theorem rFind_any (A : Option Addr) (c : Nat) (xs : List Ac) (s : ByteArray) (hm : xs.length ≤ 1000000000) (w : World) (hR : AcRow w w.heap.size A xs) :
    Calls Tryd.prog 17 #[.slice A xs.length c, .string s] w (Tells (.tuple #[(findA xs s.data.toList).1.val, .bool (findA xs s.data.toList).2]) w.heap.size w) := by
  unfold findA
  obtain ⟨V, hV⟩ : ∃ V : Ac × Bool, firstA (fun a => decide (keyA a = s.data.toList)) xs = V := ⟨_, rfl⟩
  rw [hV]
  have HV := hideIt hV
  clear hV
  have H0 := (Has.start w).add 38 (racB ⟨#[]⟩ 0 0 ⟨#[]⟩ 0)
  go_enter Tryd.func17, Tryd.ntmps17
  go_wp2
  change Code.wp _ _ _ _ (w.alloc (.cells (racB ⟨#[]⟩ 0 0 ⟨#[]⟩ 0) 38))
  generalize w.alloc (.cells (racB ⟨#[]⟩ 0 0 ⟨#[]⟩ 0) 38) = W at *
  go_loopg [6] xs.length (fun gk i wr => ∃ k : Nat, k ≤ xs.length ∧ xs.length - k ≤ gk ∧ i = .int .i64 k ∧ (∀ j y, j < k → xs[j]? = some y → (fun a : Ac => decide (keyA a = s.data.toList)) y = false) ∧ Has w [(w.heap.size, 38, racB ⟨#[]⟩ 0 0 ⟨#[]⟩ 0)] wr)
  case atStart => exact ⟨0, Nat.zero_le _, by omega, rfl, fun j y hj => absurd hj (Nat.not_lt_zero _), H0⟩
  case round =>
    obtain ⟨q, hq, hgk, rfl, hb, H⟩ := hrel
    have HG := hideIt hgk
    have HB := hideIt hb
    clear hgk hb
    obtain ⟨f0, f1, f2, f3, f4, s0, s1, s2, s3, s4, hin⟩ := (H.box 0).five
    by_cases hlt : q < xs.length
    · obtain ⟨x, hx⟩ : ∃ x, xs[q]? = some x := ⟨_, List.getElem?_eq_getElem hlt⟩
      obtain ⟨ad, rfl, had, p0, p1, p2, p3, p4⟩ := (hR.call H.below) q x hx
      have hlti : (q : Int) < (xs.length : Int) := by omega
      have p5 : (ad.add (q * 5)).block < wr.heap.size := by rw [o10_block]; exact Nat.lt_of_lt_of_le had H.size
      have HX := hideIt hx
      clear hx
      have he := rid_same x s
      obtain ⟨b, hp⟩ : ∃ b, (fun a : Ac => decide (keyA a = s.data.toList)) x = b := ⟨_, rfl⟩
      have hp' := hp
      simp only at hp'
      rw [hp'] at he
      have HP := hideIt hp
      clear hp hp'
      cases b with
      | true =>
        have HF := hideIt (firstA_hit (p := fun a : Ac => decide (keyA a = s.data.toList)) HB.out HX.out HP.out)
        clear HP
        go_wp2
        have B3 := box5_put (H.box 0) (.string x.id) (.int .u64 x.h) (.int .u64 x.l) (.string x.salt) (.int .u64 x.slot)
        have L3 := below5_put H.below (Nat.le_refl _) 0 1 2 3 4 (.string x.id) (.int .u64 x.h) (.int .u64 x.l) (.string x.salt) (.int .u64 x.slot)
        obtain ⟨e0, e1, e2, e3, e4, -⟩ := B3.five
        have e := HF.out
        rw [HV.out] at e
        subst e
        exact bodyPost_ret (v := .tuple #[x.val, .bool true]) (by simp [results, Tryd.results17, go_sem, Ac.val, e0, e1, e2, e3, e4]) rfl ⟨rfl, L3⟩
      | false =>
        go_wp2
        go_roundg (xs.length - (q + 1))
        case measure => have := HG.out; omega
        case rel => exact ⟨q + 1, by omega, Nat.le_refl _, by go_num, fun j y hj hy => by
          by_cases e : j = q
          · subst e
            rw [HX.out] at hy
            injection hy with hy
            subst hy
            exact HP.out
          · exact HB.out j y (by omega) hy, H⟩
    · have e : q = xs.length := by omega
      subst e
      have HF := hideIt (firstA_none (p := fun a : Ac => decide (keyA a = s.data.toList)) HB.out)
      go_wp2
      have B3 := box5_put (H.box 0) (.string ⟨#[]⟩) (.int .u64 0) (.int .u64 0) (.string ⟨#[]⟩) (.int .u64 0)
      have L3 := below5_put H.below (Nat.le_refl _) 0 1 2 3 4 (.string ⟨#[]⟩) (.int .u64 0) (.int .u64 0) (.string ⟨#[]⟩) (.int .u64 0)
      obtain ⟨e0, e1, e2, e3, e4, -⟩ := B3.five
      have e := HF.out
      rw [HV.out] at e
      subst e
      exact bodyPost_ret (v := .tuple #[Ac.zero.val, .bool false]) (by simp [results, Tryd.results17, go_sem, Ac.val, Ac.zero, e0, e1, e2, e3, e4]) rfl ⟨rfl, L3⟩
set_option maxRecDepth 100000 in
set_option maxHeartbeats 2000000 in
theorem rAt_any (A : Option Addr) (c : Nat) (xs : List Ac) (m : Int) (hm : xs.length ≤ 1000000000) (w : World) (hR : AcRow w w.heap.size A xs) :
    Calls Tryd.prog 19 #[.slice A xs.length c, .int .u64 m] w (Tells (.tuple #[(atA xs m).1.val, .bool (atA xs m).2]) w.heap.size w) := by
  unfold atA
  obtain ⟨V, hV⟩ : ∃ V : Ac × Bool, firstA (fun a => decide (a.slot = m)) xs = V := ⟨_, rfl⟩
  rw [hV]
  have HV := hideIt hV
  clear hV
  have H0 := (Has.start w).add 38 (racB ⟨#[]⟩ 0 0 ⟨#[]⟩ 0)
  go_enter Tryd.func19, Tryd.ntmps19
  go_wp2
  change Code.wp _ _ _ _ (w.alloc (.cells (racB ⟨#[]⟩ 0 0 ⟨#[]⟩ 0) 38))
  generalize w.alloc (.cells (racB ⟨#[]⟩ 0 0 ⟨#[]⟩ 0) 38) = W at *
  go_loopg [6] xs.length (fun gk i wr => ∃ k : Nat, k ≤ xs.length ∧ xs.length - k ≤ gk ∧ i = .int .i64 k ∧ (∀ j y, j < k → xs[j]? = some y → (fun a : Ac => decide (a.slot = m)) y = false) ∧ Has w [(w.heap.size, 38, racB ⟨#[]⟩ 0 0 ⟨#[]⟩ 0)] wr)
  case atStart => exact ⟨0, Nat.zero_le _, by omega, rfl, fun j y hj => absurd hj (Nat.not_lt_zero _), H0⟩
  case round =>
    obtain ⟨q, hq, hgk, rfl, hb, H⟩ := hrel
    have HG := hideIt hgk
    have HB := hideIt hb
    clear hgk hb
    obtain ⟨f0, f1, f2, f3, f4, s0, s1, s2, s3, s4, hin⟩ := (H.box 0).five
    by_cases hlt : q < xs.length
    · obtain ⟨x, hx⟩ : ∃ x, xs[q]? = some x := ⟨_, List.getElem?_eq_getElem hlt⟩
      obtain ⟨ad, rfl, had, p0, p1, p2, p3, p4⟩ := (hR.call H.below) q x hx
      have hlti : (q : Int) < (xs.length : Int) := by omega
      have p5 : (ad.add (q * 5)).block < wr.heap.size := by rw [o10_block]; exact Nat.lt_of_lt_of_le had H.size
      have HX := hideIt hx
      clear hx
      have he := (show (x.slot == m) = decide (x.slot = m) from Bool.beq_eq_decide_eq _ _)
      obtain ⟨b, hp⟩ : ∃ b, (fun a : Ac => decide (a.slot = m)) x = b := ⟨_, rfl⟩
      have hp' := hp
      simp only at hp'
      rw [hp'] at he
      have HP := hideIt hp
      clear hp hp'
      cases b with
      | true =>
        have HF := hideIt (firstA_hit (p := fun a : Ac => decide (a.slot = m)) HB.out HX.out HP.out)
        clear HP
        go_wp2
        have B3 := box5_put (H.box 0) (.string x.id) (.int .u64 x.h) (.int .u64 x.l) (.string x.salt) (.int .u64 x.slot)
        have L3 := below5_put H.below (Nat.le_refl _) 0 1 2 3 4 (.string x.id) (.int .u64 x.h) (.int .u64 x.l) (.string x.salt) (.int .u64 x.slot)
        obtain ⟨e0, e1, e2, e3, e4, -⟩ := B3.five
        have e := HF.out
        rw [HV.out] at e
        subst e
        exact bodyPost_ret (v := .tuple #[x.val, .bool true]) (by simp [results, Tryd.results19, go_sem, Ac.val, e0, e1, e2, e3, e4]) rfl ⟨rfl, L3⟩
      | false =>
        go_wp2
        go_roundg (xs.length - (q + 1))
        case measure => have := HG.out; omega
        case rel => exact ⟨q + 1, by omega, Nat.le_refl _, by go_num, fun j y hj hy => by
          by_cases e : j = q
          · subst e
            rw [HX.out] at hy
            injection hy with hy
            subst hy
            exact HP.out
          · exact HB.out j y (by omega) hy, H⟩
    · have e : q = xs.length := by omega
      subst e
      have HF := hideIt (firstA_none (p := fun a : Ac => decide (a.slot = m)) HB.out)
      go_wp2
      have B3 := box5_put (H.box 0) (.string ⟨#[]⟩) (.int .u64 0) (.int .u64 0) (.string ⟨#[]⟩) (.int .u64 0)
      have L3 := below5_put H.below (Nat.le_refl _) 0 1 2 3 4 (.string ⟨#[]⟩) (.int .u64 0) (.int .u64 0) (.string ⟨#[]⟩) (.int .u64 0)
      obtain ⟨e0, e1, e2, e3, e4, -⟩ := B3.five
      have e := HF.out
      rw [HV.out] at e
      subst e
      exact bodyPost_ret (v := .tuple #[Ac.zero.val, .bool false]) (by simp [results, Tryd.results19, go_sem, Ac.val, Ac.zero, e0, e1, e2, e3, e4]) rfl ⟨rfl, L3⟩
theorem rhigh_any (h : Int) (w : World) : Calls Tryd.prog 41 #[.int .i64 h] w (Plain (.bool (shOk h)) w) := by
  unfold shOk
  by_cases h0 : 0 ≤ h
  · have h3 : ¬ (h < 0) := by omega
    by_cases h1 : h ≤ 10
    · rw [decide_eq_true ⟨h0, h1⟩]
      have h2 : ¬ (10 < h) := by omega
      go_enter Tryd.func41, Tryd.ntmps41
      go_wp2
      go_ret
      exact ⟨rfl, rfl⟩
    · rw [decide_eq_false (fun k => h1 k.2)]
      have h2 : 10 < h := by omega
      go_enter Tryd.func41, Tryd.ntmps41
      go_wp2
      go_ret
      exact ⟨rfl, rfl⟩
  · rw [decide_eq_false (fun k => h0 k.1)]
    have h2 : h < 0 := by omega
    go_enter Tryd.func41, Tryd.ntmps41
    go_wp2
    go_ret
    exact ⟨rfl, rfl⟩
theorem pw_succ (k : Nat) (hk : k < 10) : IntKind.u64.wrap (2 * pw k) = pw (k + 1) := by
  have h1 : pw (k + 1) = 2 * pw k := by unfold pw; rw [Int.pow_succ]; omega
  have h2 := pw_bd (k + 1) (by omega)
  rw [← h1, IntKind.wrap_u64]
  omega
set_option maxHeartbeats 1000000 in
theorem rmany_any (h : Nat) (hh : h ≤ 10) (w : World) : Calls Tryd.prog 43 #[.int .i64 h] w (Plain (.int .u64 (pw h)) w) := by
  have h0 : pw 0 = 1 := rfl
  have hs := fun k hk => pw_succ k hk
  generalize pw = f at *
  go_enter Tryd.func43, Tryd.ntmps43
  go_wp2
  go_loopg [3, 4] h (fun gk v i wr => ∃ k : Nat, k ≤ h ∧ h - k ≤ gk ∧ v = .int .u64 (f k) ∧ i = .int .i64 k ∧ wr = w)
  case atStart => exact ⟨0, Nat.zero_le _, by omega, by rw [h0], rfl, rfl⟩
  case round =>
    obtain ⟨k, hk, hgk, rfl, rfl, rfl⟩ := hrel
    have HG := hideIt hgk
    clear hgk
    by_cases hlt : k < h
    · have hlti : (k : Int) < (h : Int) := by omega
      have hw := hs k (by omega)
      clear hs
      go_wp2
      go_roundg (h - (k + 1))
      case measure => have := HG.out; omega
      case rel => exact ⟨k + 1, by omega, Nat.le_refl _, rfl, by go_num, rfl⟩
    · have e : k = h := by omega
      subst e
      clear hs
      go_wp2
      go_ret
      exact ⟨rfl, rfl⟩
set_option maxRecDepth 100000 in
set_option maxHeartbeats 2000000 in
theorem rfree_any (A : Option Addr) (c : Nat) (xs : List Ac) (hm : xs.length ≤ 1000000) (h : Nat) (hh : h ≤ 10) (f : Int) (hf : Word f) (w : World) (hR : AcRow w w.heap.size A xs) :
    Calls Tryd.prog 21 #[.slice A xs.length c, .int .i64 h, .int .u64 f] w (Tells (.tuple #[.int .u64 (freeF (pw h) (xs.map Ac.slot) f).1, .bool (freeF (pw h) (xs.map Ac.slot) f).2]) w.heap.size w) := by
  have cH := fun u => rhigh_any h u
  rw [show shOk h = true from decide_eq_true ⟨by omega, by omega⟩] at cH
  have cS := fun u => rmany_any h hh u
  have cA := fun n u hu => rAt_any A c xs n (by omega) u hu
  have hhas := fun n => at_has xs n
  have hA := pw_bd h hh
  obtain ⟨ks, hks⟩ : ∃ ks, xs.map Ac.slot = ks := ⟨_, rfl⟩
  rw [hks] at hhas ⊢
  have hit := fun (s : Nat) (x : ∀ j, j < s → sq (pw h) f j ∈ ks) (y : (s : Int) < pw h) (z : sq (pw h) f s ∉ ks) => freeF_hit x y z
  have hno := fun (x : ∀ j : Nat, (j : Int) < pw h → sq (pw h) f j ∈ ks) => freeF_none x
  have hsb := fun s => sq_bd (A := pw h) (by omega) f s
  have hst := fun s => sq_step (pw h) f s
  have hs0 := sq_zero (pw h) f
  generalize freeF (pw h) ks f = V at *
  generalize sq (pw h) f = S at *
  have hr : f.tmod (pw h) = S 0 := by rw [hs0]; exact Int.tmod_eq_emod_of_nonneg hf.1
  generalize pw h = A2 at *
  have hA0 : ¬ A2 = 0 := by omega
  have HH := hideIt hit
  have HN := hideIt hno
  clear hit hno hs0 hks
  have hw0 : IntKind.u64.wrap (S 0) = S 0 := by have := hsb 0; rw [IntKind.wrap_u64]; omega
  generalize xs.length = N at *
  go_enter Tryd.func21, Tryd.ntmps21
  go_wp2_with (first
    | (go_at_call 41; refine (cH _).mono ?_; rintro e v1 ⟨rfl, rfl⟩)
    | (go_at_call 43; refine (cS _).mono ?_; rintro e v1 ⟨rfl, rfl⟩)
    | fail)
  clear hr hw0
  go_loopg [9, 10, 11, 12] A2.toNat (fun gk n i _ _ wr => ∃ s : Nat, (s : Int) ≤ A2 ∧ A2.toNat - s ≤ gk ∧ n = .int .u64 (S s) ∧ i = .int .u64 s ∧ (∀ j, j < s → S j ∈ ks) ∧ Below w.heap.size w wr)
  case atStart => exact ⟨0, by omega, by omega, rfl, rfl, fun j hj => absurd hj (Nat.not_lt_zero _), Below.refl _ _⟩
  case round =>
    obtain ⟨s, hs, hgk, rfl, rfl, hb, hbl⟩ := hrel
    have HG := hideIt hgk
    have HB := hideIt hb
    clear hgk hb
    by_cases hlt : (s : Int) < A2
    · obtain ⟨n, hn⟩ : ∃ n, S s = n := ⟨_, rfl⟩
      obtain ⟨n2, hn2⟩ : ∃ n, S (s + 1) = n := ⟨_, rfl⟩
      have hnb := hsb s
      have hnb2 := hsb (s + 1)
      have hst1 := hst s
      rw [hn] at hnb hst1
      rw [hn2] at hnb2 hst1
      rw [hn]
      obtain ⟨n1, hn1⟩ : ∃ m, n + 1 = m := ⟨_, rfl⟩
      have w2 : IntKind.u64.wrap (n + 1) = n1 := by rw [IntKind.wrap_u64]; omega
      have w3 : n1.tmod A2 = n2 := by rw [← hn1, ← hst1]; exact Int.tmod_eq_emod_of_nonneg (by omega)
      have w5 : IntKind.u64.wrap n2 = n2 := by rw [IntKind.wrap_u64]; omega
      have w4 : IntKind.u64.wrap ((s : Int) + 1) = ((s + 1 : Nat) : Int) := by rw [IntKind.wrap_u64]; omega
      have cA1 := cA n
      have hh1 := hhas n
      obtain ⟨⟨a, b⟩, hab⟩ : ∃ V : Ac × Bool, atA xs n = V := ⟨_, rfl⟩
      rw [hab] at cA1 hh1
      simp only [Ac.val] at cA1 hh1
      have HNN := hideIt hn
      have HN2 := hideIt hn2
      clear hn hn2 hn1 hst1 hab cA hhas
      cases b with
      | true =>
        have hm := of_decide_eq_true hh1.symm
        clear hh1
        go_wp2_with (first
          | (go_at_call 19; refine (cA1 _ ((hR.call hbl).more hbl.size)).mono ?_; rintro e v2 ⟨rfl, j2⟩)
          | fail)
        go_roundg (A2.toNat - (s + 1))
        case measure => have := HG.out; omega
        case rel => exact ⟨s + 1, by omega, Nat.le_refl _, by rw [HN2.out], rfl, fun j hj => by
            by_cases e : j = s
            · subst e; rw [HNN.out]; exact hm
            · exact HB.out j (by omega), (chain hbl j2).alloc (by have := hbl.size; have := j2.size; omega) _⟩
      | false =>
        have hm := of_decide_eq_false hh1.symm
        clear hh1
        have hv := HH.out s HB.out hlt (by rw [HNN.out]; exact hm)
        rw [HNN.out] at hv
        have HV := hideIt hv
        clear hv
        go_wp2_with (first
          | (go_at_call 19; refine (cA1 _ ((hR.call hbl).more hbl.size)).mono ?_; rintro e v2 ⟨rfl, j2⟩)
          | fail)
        refine bodyPost_ret (results_tmp2 rfl _ _ _) rfl ?_
        rw [HV.out]
        exact ⟨rfl, (chain hbl j2).alloc (by have := hbl.size; have := j2.size; omega) _⟩
    · have hv := HN.out (fun j hj => HB.out j (by omega))
      have HV := hideIt hv
      clear hv
      go_wp2
      refine bodyPost_ret (results_tmp2 rfl _ _ _) rfl ?_
      rw [HV.out]
      exact ⟨rfl, hbl⟩
theorem rfree_no (A : Option Addr) (c n : Nat) (h f : Int) (hk : shOk h = false) (w : World) :
    Calls Tryd.prog 21 #[.slice A n c, .int .i64 h, .int .u64 f] w (Tells (.tuple #[.int .u64 0, .bool false]) w.heap.size w) := by
  have cH := fun u => rhigh_any h u
  rw [hk] at cH
  go_enter Tryd.func21, Tryd.ntmps21
  go_wp2_with (first
    | (go_at_call 41; refine (cH _).mono ?_; rintro e v1 ⟨rfl, rfl⟩)
    | fail)
  refine bodyPost_ret (results_tmp2 rfl _ _ _) rfl ?_
  exact ⟨rfl, Below.refl _ _⟩
set_option maxHeartbeats 1000000 in
theorem rleaf_any (x : Ac) (w : World) : Calls Tryd.prog 25 #[x.val] w (Tells (lfA x).val w.heap.size w) := by
  obtain ⟨i, h, l, s, n⟩ := x
  have H0 : Has w [(w.heap.size + 1, 46, lfB false ⟨#[]⟩ ⟨#[]⟩ 0 0), (w.heap.size, 38, racB i h l s n)] ((w.alloc (.cells (racB i h l s n) 38)).alloc (.cells (lfB false ⟨#[]⟩ ⟨#[]⟩ 0 0) 46)) :=
    ((Has.start w).add 38 (racB i h l s n)).addAt 46 (lfB false ⟨#[]⟩ ⟨#[]⟩ 0 0) (by simp)
  go_enter Tryd.func25, Tryd.ntmps25
  go_upto_region 1 with fail
  change Code.wp _ _ _ _ ((w.alloc (.cells (racB i h l s n) 38)).alloc (.cells (lfB false ⟨#[]⟩ ⟨#[]⟩ 0 0) 46))
  generalize (w.alloc (.cells (racB i h l s n) 38)).alloc (.cells (lfB false ⟨#[]⟩ ⟨#[]⟩ 0 0) 46) = W at *
  obtain ⟨q0, q1, q2, q3, q4, -, -, -, -, -, hin0⟩ := (H0.box 1).five
  obtain ⟨⟨y0, y1, y2, y3, y4⟩, ⟨g0, g1, g2, g3, g4⟩, hin1⟩ := (H0.box 0).five0
  go_wp2
  have BX := (H0.box 0).put5 (.bool false) (.string i) (.string s) (.int .u64 h) (.int .u64 l)
  have LX := below_put5 (g := w.heap.size + 1) H0.below (by omega) (.bool false) (.string i) (.string s) (.int .u64 h) (.int .u64 l)
  generalize World.setCell (World.setCell (World.setCell (World.setCell (World.setCell W _ _) _ _) _ _) _ _) _ _ = X at *
  obtain ⟨⟨x0, x1, x2, x3, x4⟩, -, hgx⟩ := BX.five0
  exact bodyPost_ret (v := (lfA ⟨i, h, l, s, n⟩).val) (by simp [results, Tryd.results25, go_sem, Lf.val, lfA, x0, x1, x2, x3, x4]) rfl ⟨rfl, LX⟩
end Go.Proofs.YtngofpdpangajaaDoor
