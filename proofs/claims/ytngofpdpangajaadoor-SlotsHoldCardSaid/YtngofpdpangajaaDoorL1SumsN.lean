/-
  A slice of numbers that came in: what its cells hold; a row of numbers that the call makes.
-/
import Derived.Test.YtngofpdpangajaaDoorU1Sum
import Derived.Test.YtngofpdpangajaaDoorW0Lift
import Derived.Deep.Slices
import Derived.Deep.Fields
namespace Go.Proofs.YtngofpdpangajaaDoor
set_option linter.unusedVariables false
set_option linter.unusedSimpArgs false
set_option maxRecDepth 10000
open Go.ChangeShapes Go.WideShapes Go.ChangeAt Go.RowKit

theorem choose_list {α : Type} {p : Nat → α → Prop} : ∀ (n : Nat), (∀ i, i < n → ∃ a, p i a) → ∃ l : List α, l.length = n ∧ ∀ i (h : i < l.length), p i l[i]
  | 0, _ => ⟨[], rfl, fun i h => by simp at h⟩
  | n + 1, h => by
    obtain ⟨l, hl, hp⟩ := choose_list n (fun i hi => h i (by omega))
    obtain ⟨a, ha⟩ := h n (by omega)
    refine ⟨l ++ [a], by simp [hl], fun i hi => ?_⟩
    by_cases e : i < l.length
    · rw [List.getElem_append_left e]; exact hp i e
    · have e2 : i = n := by simp at hi; omega
      subst e2
      rw [List.getElem_append_right (by omega)]
      simpa [hl] using ha

theorem open_nums {H : Type} {enc : TypeId × Value → H} {W : World} {base : Nat} {v : Value} {d : DataW H} {p : List MemPlace} (hval : Value.okWide Tryd.prog W .any base 62 v)
    (h : DataW.Trod enc Tryd.prog W 0 (fun _ => true) true 62 v d p) :
    v = .slice none 0 0 ∨ ∃ (a : Addr) (len cap : Nat) (xs : List (Int × Int)), v = .slice (some a) len cap ∧ len ≤ cap ∧ cap ≤ maxLen ∧ xs.length = len ∧ AllNum xs ∧ NumRow W W.heap.size (some a) xs := by
  obtain ⟨a', len, cap, rfl⟩ := okWide_slice Tryd.underlying62 hval
  obtain ⟨fuel, hf⟩ := h
  rcases Go.Deep.open_slice Tryd.underlying62 hf with ⟨hc, -⟩ | ⟨a, len', cap', m, n, D, Pl, hc, hb, hl, hm, hmm, -, hi⟩
  · left
    simpa [Value.cells] using hc
  · right
    have hcell : Value.slice a' len cap = .slice (some a) len' cap' := by simpa [Value.cells] using hc
    have hC : Tryd.prog.cellsOf 36 = 2 := by kernel_rfl
    simp only [if_true] at hmm
    have each : ∀ i, i < len' → ∃ x : Int × Int, Word x.1 ∧ Word x.2 ∧ W.cell? (a.add (i * 2)) = some (.int .u64 x.1) ∧ W.cell? (a.add (i * 2 + 1)) = some (.int .u64 x.2) := fun i hil => by
      obtain ⟨cs', hcs, ht⟩ := hi i (by rw [hmm]; omega)
      rw [hC] at hcs
      obtain ⟨_, hcl, hat⟩ := World.cells?_some hcs
      obtain ⟨y0, y1, k, -, -, t0, t1⟩ := trod_struct2 Tryd.underlying36 ht
      have o0 : Tryd.prog.cellsOf 34 = 1 := by kernel_rfl
      match cs', hcl with
      | [u0, u1], _ =>
        have t0' : DataW.trod enc Tryd.prog W 0 (fun _ => true) true k 34 [u0] = some y0 := by simpa [o0] using t0
        have t1' : DataW.trod enc Tryd.prog W 0 (fun _ => true) true k 34 [u1] = some y1 := by simpa [o0] using t1
        obtain ⟨x0, e0, -, w0⟩ := DataW.trod_int Tryd.underlying34 t0'
        obtain ⟨x1, e1, -, w1⟩ := DataW.trod_int Tryd.underlying34 t1'
        simp at e0 e1
        subst e0 e1
        have h0 := hat 0 (by omega)
        have h1 := hat 1 (by omega)
        rw [add_two] at h0 h1
        exact ⟨(x0, x1), word_of w0, word_of w1, by simpa using h0, by simpa using h1⟩
    obtain ⟨xs, hxl, hxp⟩ := choose_list len' each
    injection hcell with e1 e2 e3
    subst e1 e2 e3
    refine ⟨a, _, _, xs, rfl, hl, hm, hxl, fun x hx => ?_, fun i x y hx => ?_⟩
    · obtain ⟨i, hi', rfl⟩ := List.getElem_of_mem hx
      exact ⟨(hxp i hi').1, (hxp i hi').2.1⟩
    · obtain ⟨hi', e⟩ := List.getElem?_eq_some_iff.1 hx
      obtain ⟨-, -, h0, h1⟩ := hxp i hi'
      rw [e] at h0 h1
      have := World.block_lt_of_cell? _ _ h0
      rw [add_block] at this
      exact ⟨a, rfl, this, h0, h1⟩

/-- The cells of a row of numbers. -/
def flat (xs : List (Int × Int)) : List Value := xs.flatMap fun x => [.int .u64 x.1, .int .u64 x.2]
theorem flat_length (xs : List (Int × Int)) : (flat xs).length = xs.length * 2 := by
  induction xs with
  | nil => rfl
  | cons x r ih => simp only [flat, List.flatMap_cons, List.length_append, List.length_cons, List.length_nil] at *; omega
theorem flat_append (xs ys : List (Int × Int)) : flat (xs ++ ys) = flat xs ++ flat ys := by simp [flat]
theorem flat_get : ∀ (xs : List (Int × Int)) (i : Nat) (h l : Int), xs[i]? = some (h, l) → (flat xs)[i * 2]? = some (.int .u64 h) ∧ (flat xs)[i * 2 + 1]? = some (.int .u64 l)
  | [], i, h, l, hx => by simp at hx
  | x :: r, 0, h, l, hx => by
    simp at hx; subst hx
    exact ⟨rfl, rfl⟩
  | x :: r, i + 1, h, l, hx => by
    have ih := flat_get r i h l (by simpa using hx)
    have e : flat (x :: r) = .int .u64 x.1 :: .int .u64 x.2 :: flat r := rfl
    rw [e, show (i + 1) * 2 = i * 2 + 1 + 1 by omega, show i * 2 + 1 + 1 + 1 = (i * 2 + 1) + 1 + 1 by omega]
    simp only [List.getElem?_cons_succ]
    exact ih
/-- A row of numbers that the call has made, as a slice of numbers. -/
theorem own_nums {w : World} {base : Nat} {v : Value} {n : Nat} {xs : List (Int × Int)} (h : w.ownsRow base 36 2 v n (flat xs)) : n = xs.length ∧ ∃ A c, v = .slice A xs.length c ∧ NumRow w w.heap.size A xs := by
  have hn : n = xs.length := by have := h.1; rw [flat_length] at this; omega
  refine ⟨hn, ?_⟩
  have h' := h
  rcases h.2 with ⟨rfl, h0⟩ | ⟨g, cap, cur, hv, hg, hh, _⟩
  · have : xs = [] := List.eq_nil_of_length_eq_zero (by omega)
    subst this
    exact ⟨none, 0, rfl, fun i x y hx => by simp at hx⟩
  · subst hv
    refine ⟨some ⟨g, 0, none⟩, cap, by rw [hn], fun i x y hx => ?_⟩
    have hi : i < xs.length := (List.getElem?_eq_some_iff.1 hx).1
    obtain ⟨c0, c1⟩ := flat_get xs i x y hx
    have e : ∀ j, (⟨g, 0, none⟩ : Addr).add j = ⟨g, j, none⟩ := fun j => by simp [Addr.add]; exact fun hj => hj.symm
    refine ⟨_, rfl, (Array.getElem?_eq_some_iff.1 hh).1, ?_, ?_⟩
    · rw [e, h'.cellAt (i * 2) (by omega)]; exact c0
    · rw [e, h'.cellAt (i * 2 + 1) (by omega)]; exact c1
/-- 'out = append(out, x)', x a struct of two halves in a fresh block. -/
theorem wp_append_num {P : Program} {ops : Array Oper} {rest : List Oper} {o : Oper} {a : Act} {Q : Exit → Act → World → Prop} {w : World} (hgd : o.guard = none) (s x : Operand) (t : TypeId)
    (ho : o.op = .call { callee := .builtin .append, args := #[s, x], argTypes := #[t, t] })
    (base : Nat) (e : TypeId) (i : TypeInfo) (z : Value) (ht : P.underlying t = some (.slice e)) (hi : P.info? e = some i) (hz : i.zero = some z)
    (hsize : i.size = 2) (hby : i.bytes = 16) (hzs : z.cells.size = 2) (v : Value) (n : Nat) (xs : List Value) (hs : a.eval s = v) (hown : w.ownsRow base e 2 v n xs)
    (h l : Value) (hx : a.eval x = .slice (some ⟨w.heap.size, 0, none⟩) 1 1) (h1 : h.oneCell' = true) (h2 : l.oneCell' = true)
    (hn : n ≤ 1000000) (hbase : base ≤ w.heap.size)
    (hk : ∀ v' w', w'.ownsRow base e 2 v' (n + 1) (xs ++ [h, l]) → (∀ B, B ≤ base → Below B w w') → wpList P ops Q rest (a.put o.dst v') w') : wpList P ops Q (o :: rest) a (w.alloc (.cells #[h, l] e)) := by
  refine wpList_append_own (w := w.alloc (.cells #[h, l] e)) hgd s x t ho base e i z 2 16 ht hi hz hsize hby hzs (by decide) v n xs hs (hown.alloc _) ⟨w.heap.size, 0, none⟩ 1 1 [h, l] hx (by simp) ?_ ?_
    (by unfold maxLen; omega) (by omega) (by simp; omega) ?_
  · intro j u hu
    have e1 : (⟨w.heap.size, 0, none⟩ : Addr).add j = ⟨w.heap.size, j, none⟩ := by simp [Addr.add]; exact fun hj => hj.symm
    rw [e1, (Box.made w e #[h, l]).read j]
    simpa using hu
  · intro u hu
    simp at hu
    rcases hu with rfl | rfl <;> assumption
  · intro v' w' hown' hg _
    exact hk v' w' hown' (fun B hB => ((Below.refl B w).alloc (by omega) _).grown hg (by simp; omega) (fun k hk => by have := (hown.lt k hk).1; omega))
end Go.Proofs.YtngofpdpangajaaDoor
