/-
  Plain words on rows: a line cut at its first blank, the row of a line, a row's line, what a line tells, what a text's lines tell.
-/
import Derived.Test.YthindbmgnkohhaaDoorM2Dec
import Derived.Test.YthindbmgnkohhaaDoorD7Id
import Derived.Test.YthindbmgnkohhaaDoorD9Rune
import Derived.Test.YthindbmgnkohhaaDoorD0Row
namespace Go.Proofs.YthindbmgnkohhaaDoor
set_option linter.unusedVariables false
set_option linter.unusedSimpArgs false
set_option maxRecDepth 10000
open Go.RowKit Go.Lib

/-- A line cut at its first blank. -/
def cutL : List UInt8 → Option (List UInt8 × List UInt8)
  | [] => none
  | c :: r => if c = 32 then some ([], r) else (cutL r).map fun p => (c :: p.1, p.2)
theorem cutL_none (l : List UInt8) : cutL l = none ↔ (32 : UInt8) ∉ l := by
  induction l with
  | nil => simp [cutL]
  | cons c r ih =>
    by_cases h : c = 32
    · subst h; simp [cutL]
    · rw [cutL, if_neg h, Option.map_eq_none_iff, ih, List.mem_cons, not_or]
      exact ⟨fun k => ⟨fun e => h e.symm, k⟩, fun k => k.2⟩
theorem cutL_some (l a b : List UInt8) : cutL l = some (a, b) ↔ l = a ++ 32 :: b ∧ (32 : UInt8) ∉ a := by
  induction l generalizing a with
  | nil => simp [cutL]
  | cons c r ih =>
    by_cases h : c = 32
    · subst h
      rw [cutL, if_pos rfl]
      constructor
      · intro e
        injection e with e
        injection e with e1 e2
        subst e1 e2
        simp
      · rintro ⟨e, hn⟩
        cases a with
        | nil => injection e with e1 e2; rw [e2]
        | cons x a =>
          injection e with e1 e2
          subst e1
          simp at hn
    · rw [cutL, if_neg h, Option.map_eq_some_iff]
      constructor
      · rintro ⟨⟨p, q⟩, e1, e2⟩
        injection e2 with e2 e3
        simp only at e2 e3
        subst e2 e3
        obtain ⟨e4, e5⟩ := (ih p).1 e1
        rw [e4]
        refine ⟨rfl, ?_⟩
        rw [List.mem_cons, not_or]
        exact ⟨fun e => h e.symm, e5⟩
      · rintro ⟨e, hn⟩
        cases a with
        | nil => injection e with e1 e2; exact absurd e1 h
        | cons x a =>
          injection e with e1 e2
          subst e1
          rw [List.mem_cons, not_or] at hn
          exact ⟨(a, b), (ih a).2 ⟨e2, hn.2⟩, rfl⟩

/-- The row of a line, and what is wrong with it. -/
def parR (l : List UInt8) : Rw × Nat := match cutL l with
  | none => (Rw.zero, 100)
  | some (a, b) => if isId a = true then if parE b = 0 then (⟨bA a, parH b, parL b⟩, 0) else (Rw.zero, 102) else (Rw.zero, 101)
theorem parR_none {l : List UInt8} (h : cutL l = none) : parR l = (Rw.zero, 100) := by simp [parR, h]
theorem parR_id {l a b : List UInt8} (h : cutL l = some (a, b)) (hi : isId a = false) : parR l = (Rw.zero, 101) := by simp [parR, h, hi]
theorem parR_am {l a b : List UInt8} (h : cutL l = some (a, b)) (hi : isId a = true) (hb : ¬ parE b = 0) : parR l = (Rw.zero, 102) := by simp [parR, h, hi, hb]
theorem parR_ok {l a b : List UInt8} (h : cutL l = some (a, b)) (hi : isId a = true) (hb : parE b = 0) : parR l = (⟨bA a, parH b, parL b⟩, 0) := by simp [parR, h, hi, hb]
theorem parH_word (l : List UInt8) : Word (parH l) := by unfold parH; split; exact rh_word _; exact word_lit
theorem parL_word (l : List UInt8) : Word (parL l) := by unfold parL; split; exact rl_word _; exact word_lit
theorem parR_cases (l : List UInt8) : (parR l).1.ok ∧ ((parR l).2 = 0 ∨ (parR l).1 = Rw.zero ∧ ((parR l).2 = 100 ∨ (parR l).2 = 101 ∨ (parR l).2 = 102)) := by
  have hz : Rw.zero.ok := ⟨word_lit, word_lit⟩
  cases h : cutL l with
  | none => rw [parR_none h]; exact ⟨hz, .inr ⟨rfl, .inl rfl⟩⟩
  | some p =>
    obtain ⟨a, b⟩ := p
    cases hi : isId a with
    | false => rw [parR_id h hi]; exact ⟨hz, .inr ⟨rfl, .inr (.inl rfl)⟩⟩
    | true =>
      by_cases hb : parE b = 0
      · rw [parR_ok h hi hb]; exact ⟨⟨parH_word b, parL_word b⟩, .inl rfl⟩
      · rw [parR_am h hi hb]; exact ⟨hz, .inr ⟨rfl, .inr (.inr rfl)⟩⟩
/-- A row's line. -/
def textR (x : Rw) : List UInt8 := x.id.data.toList ++ 32 :: decL (nv x.h x.l).toNat
/-- A row's line as it is told, and what is wrong. -/
def tolR (x : Rw) : ByteArray × Nat := if isId x.id.data.toList = true then (bA (textR x), 0) else (⟨#[]⟩, 101)
/-- What a line of that text, kind and error tells. -/
def ofR (s : List UInt8) (k e : Int) : Rw × Bool × Int := if e ≠ 0 ∨ k ≠ 2 then (Rw.zero, false, e) else ((parR s).1, decide ((parR s).2 = 0), (parR s).2)
/-- What a line tells. -/
def tell (x : List UInt8) : Rw × Bool × Nat := if wrongL x ≠ 0 ∨ kindL x ≠ 2 then (Rw.zero, false, wrongL x) else ((parR x).1, decide ((parR x).2 = 0), (parR x).2)
theorem ofR_tell (x : List UInt8) : ofR x (kindL x) (wrongL x) = ((tell x).1, (tell x).2.1, ((tell x).2.2 : Int)) := by
  unfold ofR tell
  by_cases h : wrongL x ≠ 0 ∨ kindL x ≠ 2
  · rw [if_pos (by omega), if_pos h]
  · rw [if_neg (by omega), if_neg h]
theorem tell_ok (x : List UInt8) : (tell x).1.ok := by
  unfold tell
  split
  · exact zero_ok
  · exact (parR_cases x).1
theorem tell_is (x : List UInt8) (h : (tell x).2.1 = true) : (tell x).2.2 = 0 := by
  unfold tell at *
  split at h
  · cases h
  · rename_i k
    rw [if_neg k]
    exact of_decide_eq_true h
/-- The first line that tells an error: its number, and what; else none. -/
def errF : List (Nat × List UInt8) → Nat × Nat
  | [] => (0, 0)
  | x :: r => if (tell x.2).2.2 = 0 then errF r else (x.1, (tell x.2).2.2)
/-- The rows that lines tell. -/
def rowsF (l : List (Nat × List UInt8)) : List Rw := l.flatMap fun x => if (tell x.2).2.1 = true then [(tell x.2).1] else []
def AllTell (pre : List (Nat × List UInt8)) : Prop := ∀ x ∈ pre, (tell x.2).2.2 = 0
theorem AllTell.snoc {pre : List (Nat × List UInt8)} {x : Nat × List UInt8} (h : AllTell pre) (hx : (tell x.2).2.2 = 0) : AllTell (pre ++ [x]) := fun y hy => by
  rcases List.mem_append.1 hy with hy | hy
  · exact h y hy
  · obtain rfl := List.mem_singleton.1 hy; exact hx
theorem errF_good (pre l : List (Nat × List UInt8)) (h : AllTell pre) : errF (pre ++ l) = errF l := by
  induction pre with
  | nil => rfl
  | cons x r ih =>
    rw [List.cons_append, errF, if_pos (h x (by simp)), ih fun y hy => h y (by simp [hy])]
theorem errF_hit (pre l : List (Nat × List UInt8)) (x : Nat × List UInt8) (h : AllTell pre) (hx : (tell x.2).2.2 ≠ 0) : errF (pre ++ x :: l) = (x.1, (tell x.2).2.2) := by
  rw [errF_good pre _ h, errF, if_neg hx]
theorem rowsF_snoc (l : List (Nat × List UInt8)) (x : Nat × List UInt8) : rowsF (l ++ [x]) = rowsF l ++ if (tell x.2).2.1 = true then [(tell x.2).1] else [] := by simp [rowsF]
theorem rowsF_len (l : List (Nat × List UInt8)) : (rowsF l).length ≤ l.length := by
  induction l with
  | nil => simp [rowsF]
  | cons x r ih =>
    rw [rowsF, List.flatMap_cons, List.length_append, List.length_cons]
    have : (if (tell x.2).2.1 = true then [(tell x.2).1] else []).length ≤ 1 := by split <;> simp
    unfold rowsF at ih
    omega
/-- What a text's lines tell. -/
def allRows (l : List (Nat × List UInt8)) : List Rw := if (errF l).2 = 0 then rowsF l else []
end Go.Proofs.YthindbmgnkohhaaDoor
