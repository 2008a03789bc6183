/-
  Plain words on what all leaves hold: any worth of theirs summed up, by the accounts'.
-/
import Derived.Test.YtngofpdpangajaaDoorD12Leaf
import Derived.Test.YtngofpdpangajaaDoorM12Set
import Derived.Test.YtngofpdpangajaaDoorL1SumsN
namespace Go.Proofs.YtngofpdpangajaaDoor
set_option linter.unusedVariables false
set_option linter.unusedSimpArgs false
set_option maxRecDepth 10000
open Go.RowKit Go.Sort

/-- A worth of leaves, summed up; one of accounts. -/
def sumV (v : Lf → Int) (f : Nat → Lf) : Nat → Int
  | 0 => 0
  | N + 1 => sumV v f N + v (f N)
def sumQ (q : Ac → Int) : List Ac → Int
  | [] => 0
  | a :: r => q a + sumQ q r
theorem sumQ_snoc (q : Ac → Int) (l : List Ac) (a : Ac) : sumQ q (l ++ [a]) = sumQ q l + q a := by
  induction l with
  | nil => simp [sumQ]
  | cons x r ih => simp only [List.cons_append, sumQ, ih]; omega
theorem sumV_same {v : Lf → Int} {f g : Nat → Lf} {N : Nat} (h : ∀ n, n < N → f n = g n) : sumV v f N = sumV v g N := by
  induction N with
  | zero => rfl
  | succ N ih => simp only [sumV]; rw [ih (fun n hn => h n (by omega)), h N (by omega)]
theorem sumV_upd {v : Lf → Int} {f g : Nat → Lf} {m : Nat} (h : ∀ n, n ≠ m → f n = g n) (N : Nat) : sumV v f N = sumV v g N + if m < N then v (f m) - v (g m) else 0 := by
  induction N with
  | zero => simp [sumV]
  | succ N ih =>
    simp only [sumV]
    rw [ih]
    by_cases e : m = N
    · subst e
      rw [if_neg (Nat.lt_irrefl _), if_pos (Nat.lt_succ_self _)]
      omega
    · rw [h N (fun e2 => e e2.symm)]
      by_cases h2 : m < N
      · rw [if_pos h2, if_pos (by omega)]; omega
      · rw [if_neg h2, if_neg (by omega)]; omega
theorem sumV_leaves (seed : ByteArray) (N : Nat) (v : Lf → Int) (p : Int) (q : Ac → Int) (hp : ∀ n : Nat, v (padLf seed n) = p) (hq : ∀ a, v (lfA a) = q a) (l : List Ac) :
    (l.map Ac.slot).Nodup → (∀ a ∈ l, ∃ m : Nat, a.slot = m ∧ m < N) → sumV v (leafAt seed l) N = p * N + sumQ (fun a => q a - p) l := by
  refine snoc_ind (p := fun l => (l.map Ac.slot).Nodup → (∀ a ∈ l, ∃ m : Nat, a.slot = m ∧ m < N) → sumV v (leafAt seed l) N = p * N + sumQ (fun a => q a - p) l) ?_ ?_ l
  · intro _ _
    have : ∀ K : Nat, sumV v (leafAt seed []) K = p * K := by
      intro K
      induction K with
      | zero => simp [sumV]
      | succ K ih =>
        simp only [sumV]
        rw [ih, show leafAt seed [] K = padLf seed K from rfl, hp, Int.natCast_succ, Int.mul_add, Int.mul_one]
    rw [this]
    simp [sumQ]
  · intro l a ih hd hs
    rw [List.map_append, List.nodup_append] at hd
    obtain ⟨hd1, -, hd2⟩ := hd
    obtain ⟨m, hm, hmN⟩ := hs a (by simp)
    have hnot : ¬ (m : Int) ∈ l.map Ac.slot := fun hin => hd2 _ hin a.slot (by simp) hm.symm
    have h1 : (atA l (m : Int)).2 = false := by rw [at_has]; exact decide_eq_false hnot
    have hne : ∀ n, n ≠ m → leafAt seed (l ++ [a]) n = leafAt seed l n := fun n hn => by
      unfold leafAt
      rw [at_snoc, if_neg (show ¬ a.slot = (n : Int) by omega)]
      cases h : (atA l (n : Int)).2 with
      | true => simp [h]
      | false => simp
    rw [sumV_upd hne N, if_pos hmN, ih hd1 (fun b hb => hs b (by simp [hb])), sumQ_snoc]
    have e1 : leafAt seed (l ++ [a]) m = lfA a := by
      unfold leafAt
      rw [at_snoc]
      simp [h1, hm]
    have e2 : leafAt seed l m = padLf seed m := by
      unfold leafAt
      rw [h1]
      rfl
    rw [e1, e2, hp, hq]
    omega
def amtL (x : Lf) : Int × Int := (x.h, x.l)
def amtA (a : Ac) : Int × Int := (a.h, a.l)
def worth (x : Lf) : Int := nv x.h x.l
def isPad (x : Lf) : Int := if x.pad = true then 1 else 0
theorem sumN_range (f : Nat → Lf) (N : Nat) : sumN ((List.range N).map fun n => amtL (f n)) = sumV worth f N := by
  induction N with
  | zero => rfl
  | succ N ih =>
    rw [List.range_succ, List.map_append, sumN_append, ih]
    simp [sumV, sumN, worth, amtL]
theorem sumN_accs (l : List Ac) : sumN (l.map amtA) = sumQ (fun a => nv a.h a.l - 0) l := by
  induction l with
  | nil => rfl
  | cons a r ih => simp only [List.map_cons, sumN, sumQ, ih, amtA]; omega
theorem sumQ_one (l : List Ac) : sumQ (fun _ => 0 - 1) l = - (l.length : Int) := by
  induction l with
  | nil => rfl
  | cons a r ih => simp only [sumQ, ih, List.length_cons]; omega
/-- Together they hold what the accounts do; and who has no leaf of its own is a pad. -/
theorem hold_sum {seed : ByteArray} {N : Nat} {l : List Ac} (hd : (l.map Ac.slot).Nodup) (hs : ∀ a ∈ l, ∃ m : Nat, a.slot = m ∧ m < N) : sumN ((List.range N).map fun n => amtL (leafAt seed l n)) = sumN (l.map amtA) := by
  rw [sumN_range, sumN_accs, sumV_leaves seed N worth 0 (fun a => nv a.h a.l) (fun n => by simp [worth, padLf, nv]) (fun a => rfl) l hd hs]
  omega
theorem hold_pads {seed : ByteArray} {N : Nat} {l : List Ac} (hd : (l.map Ac.slot).Nodup) (hs : ∀ a ∈ l, ∃ m : Nat, a.slot = m ∧ m < N) : sumV isPad (leafAt seed l) N + l.length = N := by
  rw [sumV_leaves seed N isPad 1 (fun _ => 0) (fun n => rfl) (fun a => rfl) l hd hs, sumQ_one]
  omega
end Go.Proofs.YtngofpdpangajaaDoor
