/-
  'append(s, x...)' on rows of numbers in a region that draws its order: s a row of the call's own, x any row, an empty one too; what is known of other rows stays.
-/
import Derived.Test.YtpafamlegfdclaaF3Flat
import Derived.Test.YtpafamlegfdclaaW1Has
import Derived.Deep.AppendLies
namespace Go.Proofs.Ytpafamlegfdclaa
set_option linter.unusedVariables false
set_option linter.unusedSimpArgs false
open Go.RowKit

theorem run_append_nums (w : World) (ty : TypeId) (base g n cap : Nat) (xs : List (Int × Int)) (hown : w.ownsRow base 24 2 (.slice (some ⟨g, 0, none⟩) n cap) n (flat xs))
    (X : Option Addr) (m c : Nat) (ys : List (Int × Int)) (hm : ys.length = m) (hr : NumRow w w.heap.size X ys) (hX : X = none → m = 0 ∧ c = 0) (hb1 : n + m ≤ 1000000) :
    ∃ C cb w', (Builtin.append_ #[40, 40] ty #[.slice (some ⟨g, 0, none⟩) n cap, .slice X m c]).run Try.prog w = .ok (.slice (some ⟨C, 0, none⟩) (n + m) cb) w' ∧
      w'.ownsRow base 24 2 (.slice (some ⟨C, 0, none⟩) (n + m) cb) (n + m) (flat (xs ++ ys)) ∧ w.grownBy w' (some g) ∧ (C = g ∨ C = w.heap.size) ∧ C < w'.heap.size := by
  obtain ⟨i0, hi, hz0, hz1, hz2⟩ := info_parts info_num2
  have hform := hown.2
  have hlt := hown.lt g rfl
  rcases hform with ⟨h, -⟩ | ⟨g', cap', cur, h, hbg, hh, hc, hmx, -⟩
  · cases h
  · injection h with e1 e2 e3
    subst e3
    by_cases m0 : m = 0
    · subst m0
      have hy : ys = [] := List.eq_nil_of_length_eq_zero hm
      subst hy
      rcases X with _ | ad
      · obtain ⟨-, rfl⟩ := hX rfl
        have hrun := run_append_owned_none (P := Try.prog) w base 40 ty 24 i0 2 Try.underlying40 hi _ n (flat xs) hown
        exact ⟨g, _, w, hrun, by simpa using hown, ⟨rfl, rfl, rfl, Nat.le_refl _, fun _ _ _ => rfl⟩, .inl rfl, hlt.2⟩
      · obtain ⟨w', hrun, h2, h3⟩ := run_append_fits (P := Try.prog) w base 40 ty 24 i0 2 Try.underlying40 hi hz1 g n _ (flat xs) hown ad 0 c (flat []) rfl (fun j u hu => by simp [flat] at hu) (fun u hu => by simp [flat] at hu) (by omega)
        exact ⟨g, _, w', hrun, by simpa [flat] using h2, h3, .inl rfl, Nat.lt_of_lt_of_le hlt.2 h3.size⟩
    · rcases X with _ | ad
      · exact absurd (hX rfl).1 m0
      · obtain ⟨C, cb, w', hrun, h2, h3, h4, h5⟩ := run_append_lies (P := Try.prog) w 40 ty base 24 i0 _ 2 16 Try.underlying40 hi hz0 hz1 hz2 rfl (by decide) _ n (flat xs) hown ad m c (flat ys) (by rw [flat_length, hm]) (fun j u hu => flat_at hr hu) (flat_one ys)
          (by omega) (by unfold maxLen; omega) (by omega) (by omega) w.heap.size rfl
        refine ⟨C, cb, w', hrun, by rw [flat_append]; exact h2, h3, ?_, h5⟩
        rcases h4 with h4 | h4
        · left
          simp [Value.ownBlock] at h4
          exact h4.symm
        · exact .inr h4
theorem wp_append_gen {o : Oper} {a : Act} {w : World} {K : Act → World → Prop} {Q : Exit → Act → World → Prop} (base : Nat) (s x : Operand)
    (ho : o.op = .call { callee := .builtin .append, args := #[s, x], argTypes := #[40, 40] })
    (g n cap : Nat) (xs : List (Int × Int)) (hs : a.eval s = .slice (some ⟨g, 0, none⟩) n cap)
    (X : Option Addr) (m c : Nat) (ys : List (Int × Int)) (hx : a.eval x = .slice X m c) (hm : ys.length = m) (hX : X = none → m = 0 ∧ c = 0) (hb1 : n + m ≤ 1000000) (N : Nat) (hN : n + m = N)
    (hown : w.ownsRow base 24 2 (.slice (some ⟨g, 0, none⟩) n cap) n (flat xs)) (hr : NumRow w w.heap.size X ys)
    (hK : ∀ C cb w', w'.ownsRow base 24 2 (.slice (some ⟨C, 0, none⟩) N cb) N (flat (xs ++ ys)) → w.grownBy w' (some g) → (C = g ∨ C = w.heap.size) → C < w'.heap.size → K (a.put o.dst (.slice (some ⟨C, 0, none⟩) N cb)) w') :
    Oper.wp Try.prog o a w K Q := by
  subst hN
  obtain ⟨C, cb, w', hrun, h1, h2, h3, h4⟩ := run_append_nums w o.type base g n cap xs hown X m c ys hm hr hX hb1
  unfold Oper.wp
  simp [execOp, ho, resolve, invoke, builtin, hs, hx, hrun, Result.andThen]
  exact hK C cb w' h1 h2 h3 h4
theorem step_append_gen {ops : Array Oper} {o : Oper} {a : Act} {w : World} {K : Act → World → Prop} {Q : Exit → Act → World → Prop} {E : Prop} (base : Nat) (hgd : o.guard = none) (s x : Operand)
    (ho : o.op = .call { callee := .builtin .append, args := #[s, x], argTypes := #[40, 40] })
    (g n cap : Nat) (xs : List (Int × Int)) (hs : a.eval s = .slice (some ⟨g, 0, none⟩) n cap)
    (X : Option Addr) (m c : Nat) (ys : List (Int × Int)) (hx : a.eval x = .slice X m c) (hm : ys.length = m) (hX : X = none → m = 0 ∧ c = 0) (hb1 : n + m ≤ 1000000) (N : Nat) (hN : n + m = N)
    (hown : w.ownsRow base 24 2 (.slice (some ⟨g, 0, none⟩) n cap) n (flat xs)) (hr : NumRow w w.heap.size X ys)
    (hK : ∀ C cb w', w'.ownsRow base 24 2 (.slice (some ⟨C, 0, none⟩) N cb) N (flat (xs ++ ys)) → w.grownBy w' (some g) → (C = g ∨ C = w.heap.size) → C < w'.heap.size → K (a.put o.dst (.slice (some ⟨C, 0, none⟩) N cb)) w') :
    if Region.wanted o (yielded ops a.tmps) = true then Oper.wp Try.prog o a w K Q else E := by
  have hw : Region.wanted o (yielded ops a.tmps) = true := by simp [Region.wanted, hgd]
  rw [if_pos hw]
  exact wp_append_gen base s x ho g n cap xs hs X m c ys hx hm hX hb1 N hN hown hr hK
theorem wpl_append_gen {ops : Array Oper} {rest : List Oper} {o : Oper} {a : Act} {w : World} {Q : Exit → Act → World → Prop} (base : Nat) (hgd : o.guard = none) (s x : Operand)
    (ho : o.op = .call { callee := .builtin .append, args := #[s, x], argTypes := #[40, 40] })
    (g n cap : Nat) (xs : List (Int × Int)) (hs : a.eval s = .slice (some ⟨g, 0, none⟩) n cap)
    (X : Option Addr) (m c : Nat) (ys : List (Int × Int)) (hx : a.eval x = .slice X m c) (hm : ys.length = m) (hX : X = none → m = 0 ∧ c = 0) (hb1 : n + m ≤ 1000000) (N : Nat) (hN : n + m = N)
    (hown : w.ownsRow base 24 2 (.slice (some ⟨g, 0, none⟩) n cap) n (flat xs)) (hr : NumRow w w.heap.size X ys)
    (hK : ∀ C cb w', w'.ownsRow base 24 2 (.slice (some ⟨C, 0, none⟩) N cb) N (flat (xs ++ ys)) → w.grownBy w' (some g) → (C = g ∨ C = w.heap.size) → C < w'.heap.size → wpList Try.prog ops Q rest (a.put o.dst (.slice (some ⟨C, 0, none⟩) N cb)) w') :
    wpList Try.prog ops Q (o :: rest) a w :=
  wpList_plain hgd fun _ hK' => wp_append_gen base s x ho g n cap xs hs X m c ys hx hm hX hb1 N hN hown hr fun C cb w' h1 h2 h3 h4 => hK' _ _ (hK C cb w' h1 h2 h3 h4)
/-- A row laid down whole. -/
theorem own_lit {w : World} {b g : Nat} {cs : Array Value} (qs : List (Int × Int)) (k : Nat) (hk : qs.length = k) (hm : k ≤ 1000000) (hb : b ≤ w.heap.size) (e : cs = (flat qs).toArray) (hg : w.heap.size = g) :
    (w.alloc (.cells cs 24)).ownsRow b 24 2 (.slice (some ⟨g, 0, none⟩) k k) k (flat qs) := by
  subst e hg
  exact World.ownsRow_lit w (flat qs).toArray k hb (by unfold maxLen; omega) (by simp [flat_length, hk])
theorem own_kept {w w' : World} {b g h n c : Nat} {xs : List Value} (hk : w.ownsRow b 24 2 (.slice (some ⟨g, 0, none⟩) n c) n xs) (hg : w.grownBy w' (some h)) (hne : g ≠ h) : w'.ownsRow b 24 2 (.slice (some ⟨g, 0, none⟩) n c) n xs :=
  hk.kept hg (.inr (by simp [Value.ownBlock]; exact hne))
theorem own_num {w : World} {b g n c : Nat} {xs : List (Int × Int)} (h : w.ownsRow b 24 2 (.slice (some ⟨g, 0, none⟩) n c) n (flat xs)) : NumRow w w.heap.size (some ⟨g, 0, none⟩) xs := by
  obtain ⟨-, A, c', e, hr⟩ := own_nums h
  injection e with e1 e2 e3
  subst e1
  exact hr
theorem nrow_below {w W : World} {A : Option Addr} {xs : List (Int × Int)} (h : NumRow w w.heap.size A xs) (hb : Below w.heap.size w W) : NumRow W W.heap.size A xs := (h.call hb).more hb.size
theorem has_grown {w W w' : World} {l : List Blk} {g : Nat} (h : Has w l W) (hg : W.grownBy w' (some g)) (hl : ∀ x ∈ l, x.1 ≠ g) (hb : w.heap.size ≤ g) : Has w l w' :=
  ⟨fun x hx => (h.1 x hx).grown hg (by simp; exact hl x hx), h.2.grown hg h.2.size (fun k hk => by injection hk with hk; omega)⟩
theorem held_grown {w W w' : World} {l : List Blk} {g : Nat} {C : World → Prop} (fact : ∀ u, Has w l u → C u) (h : Has w l W ∧ C W) (hg : W.grownBy w' (some g)) (hl : ∀ x ∈ l, x.1 ≠ g) (hb : w.heap.size ≤ g) : Has w l w' ∧ C w' :=
  ⟨has_grown h.1 hg hl hb, fact _ (has_grown h.1 hg hl hb)⟩
end Go.Proofs.Ytpafamlegfdclaa
