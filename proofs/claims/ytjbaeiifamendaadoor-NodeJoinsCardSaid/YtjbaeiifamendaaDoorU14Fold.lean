/-
  Package node's Fold, walked.
-/
import Derived.Test.YtjbaeiifamendaaDoorU14JAll
import Derived.Test.YtjbaeiifamendaaDoorU14Ones
import Derived.Test.YtjbaeiifamendaaDoorD14Fold
namespace Go.Proofs.YtjbaeiifamendaaDoor
set_option linter.unusedVariables false
set_option linter.unusedSimpArgs false
set_option maxRecDepth 10000
open Go.RowKit

set_option maxRecDepth 100000 in
set_option maxHeartbeats 4000000 in
theorem fold14_any (n : Int) (A : Option Addr) (c : Nat) (l : List Nd) (hlen : l.length ≤ 300) (hh : ∀ x ∈ l, x.halved) (w : World) (hR : ndS.Row w w.heap.size A l) (hT : Tab w) :
    Calls Tryd.prog 17 #[.int .i64 n, .slice A l.length c] w (fun e w' => e = .returned (.tuple #[(foldN n l).1.val, .int .i64 (foldN n l).2]) ∧ Below w.heap.size w w') := by
  have cA := fun u hu => allOf14_any n A c l (by omega) u hu
  have cO := fun u => ones_any l.length u
  have ho := ones_pow l.length (by omega)
  have hlog := powB_log l.length (by omega)
  have hf : foldN n l = if allW n l = true then (if powB l.length = true then foldS n (Nat.log2 l.length) l else (Nd.zero, 2)) else (Nd.zero, 70) := rfl
  obtain ⟨R, hRR⟩ : ∃ R, foldN n l = R := ⟨_, rfl⟩
  rw [hRR] at hf ⊢
  clear hRR
  obtain ⟨N, hN⟩ : ∃ N, l.length = N := ⟨_, rfl⟩
  obtain ⟨K, hK⟩ : ∃ K, Nat.log2 N = K := ⟨_, rfl⟩
  rw [hN] at cA cO ho hlog hf ⊢
  rw [hK] at hlog hf
  generalize onesN N = O at *
  have H0 := (Has.start w).add 26 (ndB ⟨#[]⟩ 0 0)
  have hr0 := hR.on H0.below
  go_enter Tryd.func17, Tryd.ntmps17
  go_upto_region 1 with fail
  change Code.wp _ _ _ _ (w.alloc (.cells (ndB ⟨#[]⟩ 0 0) 26))
  generalize w.alloc (.cells (ndB ⟨#[]⟩ 0 0) 26) = W0 at *
  cases hV : allW n l with
  | false =>
    rw [hV] at cA hf
    rw [if_neg (by decide)] at hf
    have HR := hideIt hf
    clear hf ho hlog
    go_wp2_with (first | (go_at_call 26; refine (cA _ hr0).mono ?_; rintro e w1 ⟨rfl, b1⟩; have K2 := H0.call b1; obtain ⟨y0, y1, y2, f0, f1, f2, hin⟩ := (K2.box 0).three) | fail)
    have E := told3 K2 (Nat.le_refl _) (fun x hx => by simp at hx) (.string ⟨#[]⟩) (.int .u64 0) (.int .u64 0)
    generalize World.setCell (World.setCell (World.setCell _ _ _) _ _) _ _ = W9 at *
    obtain ⟨v0, v1, v2, -, -, -, hin9⟩ := (E.box 0).three
    exact bodyPost_ret (v := .tuple #[Nd.zero.val, .int .i64 70]) (by simp [results, Tryd.results17, go_sem, Nd.val, Nd.zero, v0, v1, v2]) rfl ⟨by rw [HR.out], E.below⟩
  | true =>
    rw [hV] at cA hf
    rw [if_pos rfl] at hf
    have hNu : IntKind.u64.wrap (N : Int) = (N : Int) := by rw [IntKind.wrap_u64]; omega
    cases hP : powB N with
    | false =>
      rw [hP] at ho hf
      rw [if_neg (by decide)] at hf
      have HR := hideIt hf
      clear hf hlog
      have ho1 : (O != 1) = true := ho
      have ho2 : ¬ O = 1 := by simpa using ho1
      go_wp2_with (first
        | (go_at_call 26; refine (cA _ hr0).mono ?_; rintro e w1 ⟨rfl, b1⟩; have K2 := H0.call b1; obtain ⟨y0, y1, y2, f0, f1, f2, hin⟩ := (K2.box 0).three)
        | (go_at_call 30; refine (cO _).mono ?_; rintro e w2 ⟨rfl, rfl⟩)
        | fail)
      have E := told3 K2 (Nat.le_refl _) (fun x hx => by simp at hx) (.string ⟨#[]⟩) (.int .u64 0) (.int .u64 0)
      generalize World.setCell (World.setCell (World.setCell _ _ _) _ _) _ _ = W9 at *
      obtain ⟨v0, v1, v2, -, -, -, hin9⟩ := (E.box 0).three
      exact bodyPost_ret (v := .tuple #[Nd.zero.val, .int .i64 2]) (by simp [results, Tryd.results17, go_sem, Nd.val, Nd.zero, v0, v1, v2]) rfl ⟨by rw [HR.out], E.below⟩
    | true =>
      rw [hP] at ho hf
      rw [if_pos rfl] at hf
      obtain ⟨hN2, hK8⟩ := hlog hP
      have ho1 : O = 1 := by simpa using ho
      subst ho1
      obtain ⟨hmw, hof⟩ := allW_mem hV
      have HR := hideIt hf
      have HN2 := hideIt hN2
      clear hf hlog ho hN2
      go_wp2_with (first
        | (go_at_call 26; refine (cA _ hr0).mono ?_; rintro e w1 ⟨rfl, b1⟩; have K2 := H0.call b1)
        | (go_at_call 30; refine (cO _).mono ?_; rintro e w2 ⟨rfl, rfl⟩)
        | fail)
      go_loopg [6] (K + 1) (fun gk v wr => ∃ (k : Nat) (A' : Option Addr) (c' : Nat) (l' : List Nd), k < gk ∧ k ≤ 8 ∧ l'.length = 2 ^ k ∧ v = .slice A' l'.length c' ∧ foldS n K l = foldS n k l' ∧ (∀ x ∈ l', x.of n = true ∧ x.halved) ∧ ndS.Row wr wr.heap.size A' l' ∧ Has w [(w.heap.size, 26, ndB ⟨#[]⟩ 0 0)] wr)
      case atStart => exact ⟨K, A, c, l, Nat.lt_succ_self _, hK8, by rw [hN]; exact HN2.out, by rw [hN], rfl, fun x hx => ⟨hof x hx, hh x hx⟩, hR.on K2.below, K2⟩
      case round =>
        obtain ⟨k, A', c', l', hgk, hk8, hl', rfl, hfo, hx', hR', K3⟩ := hrel
        have HG := hideIt hgk
        have HL := hideIt hl'
        have HF := hideIt hfo
        clear hgk hfo K2
        cases k with
        | zero =>
          have hl1 : l'.length = 1 := hl'
          obtain ⟨x, rfl⟩ := List.length_eq_one_iff.1 hl1
          obtain ⟨ad, rfl, g1, p0, p1, p2⟩ := nd_get hR' (i := 0) (x := x) rfl
          obtain ⟨y0, y1, y2, f0, f1, f2, hin⟩ := (K3.box 0).three
          have ez : ad.add (0 * 3) = ad := by simp [Addr.add]
          rw [ez] at p0 p1 p2
          have cW := fun u => own14_any x (Nat.le_trans (of_size (hx' x (by simp)).1) (by decide)) u
          obtain ⟨xs, xh, xl⟩ := x
          simp only [Nd.val] at p0 p1 p2 cW
          have HX := hideIt HF.out
          clear g1 ez hl' hl1 HL
          go_wp2_with (first
            | (go_at_call 27; refine (cW _).mono ?_; rintro e w5 ⟨rfl, b5⟩; have K5 := K3.call b5; obtain ⟨z0, z1, z2, zf0, zf1, zf2, zin⟩ := (K5.box 0).three)
            | fail)
          have E := told3 K5 (Nat.le_refl _) (fun x hx => by simp at hx) (.string xs) (.int .u64 xh) (.int .u64 xl)
          generalize World.setCell (World.setCell (World.setCell _ _ _) _ _) _ _ = W9 at *
          obtain ⟨v0, v1, v2, -, -, -, hin9⟩ := (E.box 0).three
          exact bodyPost_ret (v := .tuple #[Nd.val ⟨xs, xh, xl⟩, .int .i64 0]) (by simp [results, Tryd.results17, go_sem, Nd.val, v0, v1, v2]) rfl ⟨by rw [HR.out, HX.out]; rfl, E.below⟩
        | succ k =>
          have hm : l'.length = 2 ^ k + 2 ^ k := by rw [hl', pow_two]
          have hk : 2 ^ k ≤ 2 ^ 7 := Nat.pow_le_pow_right (by decide) (by omega)
          have hk1 : 1 ≤ 2 ^ k := Nat.two_pow_pos k
          have cJ := fun u hu hu2 => joinAll14_any n hmw A' c' (2 ^ k) l' hm (by omega) hx' u hu hu2
          have hlt : (1 : Int) < (l'.length : Int) := by omega
          have hpl := pairL_len n (2 ^ k) l' hm
          have hup := fold_up hmw k l' hl' (fun x hx => (hx' x hx).2) (fun x hx => (hx' x hx).1)
          have hno := fold_none hmw k l' hl' (fun x hx => (hx' x hx).2) (fun x hx => (hx' x hx).1)
          have hpf := pairs_fine hmw (2 ^ k) l' hm (fun x hx => (hx' x hx).2)
          obtain ⟨M, hM⟩ : ∃ M, l'.length = M := ⟨_, rfl⟩
          rw [hM] at cJ hlt ⊢
          have HM := hideIt hM
          clear hM hl' hm hk
          have HUP := hideIt hup
          have HNO := hideIt hno
          have HPF := hideIt hpf
          clear hup hno hpf
          cases hok : okP n (pairsK l') with
          | true =>
            rw [hok] at cJ
            go_upto_region 8 with (first
              | (go_at_call 31; refine (cJ _ hR' (hT.call K3.below)).mono ?_; rintro e w5 ⟨b5, ⟨-, A2, c2, rfl, hR2⟩ | ⟨h0, -⟩⟩; rotate_left 1; exact absurd h0 (by decide))
              | fail)
            have K5 := K3.call b5
            obtain ⟨f1, f2, f3⟩ := HPF.out hok
            have HF2 := hideIt (HF.out.trans (HUP.out hok))
            go_wp2
            go_roundg (k + 1)
            case measure => have := HG.out; omega
            case rel => exact ⟨k, A2, c2, pairL n l', Nat.lt_succ_self _, by omega, hpl, by rw [hpl], HF2.out, fun x hx => ⟨f2 x hx, f1 x hx⟩, hR2, K5⟩
          | false =>
            rw [hok] at cJ
            have HX := hideIt (HF.out.trans (HNO.out hok))
            go_wp2_with (first
              | (go_at_call 31; refine (cJ _ hR' (hT.call K3.below)).mono ?_; rintro e w5 ⟨b5, ⟨h0, -⟩ | ⟨-, rfl⟩⟩; exact absurd h0 (by decide); have K5 := K3.call b5; obtain ⟨z0, z1, z2, zf0, zf1, zf2, zin⟩ := (K5.box 0).three)
              | fail)
            have E := told3 K5 (Nat.le_refl _) (fun x hx => by simp at hx) (.string ⟨#[]⟩) (.int .u64 0) (.int .u64 0)
            generalize World.setCell (World.setCell (World.setCell _ _ _) _ _) _ _ = W9 at *
            obtain ⟨v0, v1, v2, -, -, -, hin9⟩ := (E.box 0).three
            exact bodyPost_ret (v := .tuple #[Nd.zero.val, .int .i64 10]) (by simp [results, Tryd.results17, go_sem, Nd.val, Nd.zero, v0, v1, v2]) rfl ⟨by rw [HR.out, HX.out], E.below⟩
end Go.Proofs.YtjbaeiifamendaaDoor
