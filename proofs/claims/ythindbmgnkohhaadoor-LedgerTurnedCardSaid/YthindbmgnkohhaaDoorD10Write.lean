/-
  Plain words on what is written: a remark's line, rows' lines.
-/
import Derived.Test.YthindbmgnkohhaaDoorD10Row
import Derived.Test.YthindbmgnkohhaaDoorM9Lin
import Derived.Test.YthindbmgnkohhaaDoorD9Utf
import Derived.Test.YthindbmgnkohhaaDoorD9Back
namespace Go.Proofs.YthindbmgnkohhaaDoor
set_option linter.unusedVariables false
set_option linter.unusedSimpArgs false
set_option maxRecDepth 10000
open Go.RowKit Go.Lib

/-- Is a remark one line of at most 78 runes? -/
def remOk (l : List UInt8) : Bool := !has10 l && (match runesL l with | some r => decide (r.length ≤ 78) | none => false)
/-- A remark's line, its end behind it. -/
def remL (l : List UInt8) : List UInt8 := if l = [] then [] else 35 :: 32 :: l ++ [10]
/-- Rows' lines, an end behind each. -/
def rowsT (xs : List Rw) : List UInt8 := xs.flatMap fun x => textR x ++ [10]
theorem rowsT_snoc (xs : List Rw) (x : Rw) : rowsT (xs ++ [x]) = rowsT xs ++ (textR x ++ [10]) := by simp [rowsT]
theorem rowsT_take (xs : List Rw) (k : Nat) : (rowsT (xs.take k)).length ≤ (rowsT xs).length := by
  have h : rowsT xs = rowsT (xs.take k) ++ rowsT (xs.drop k) := by
    unfold rowsT
    rw [← List.flatMap_append, List.take_append_drop]
  rw [h, List.length_append]
  omega
def allId (xs : List Rw) : Bool := xs.all fun x => isId x.id.data.toList
/-- What is written, and what is wrong. -/
def wrR (xs : List Rw) (rem : List UInt8) : ByteArray × Nat :=
  if allId xs = true then (if remOk rem = true then (bA (remL rem ++ rowsT xs), 0) else (⟨#[]⟩, 91)) else (⟨#[]⟩, 101)
theorem runes_ascii (c : UInt8) (hc : c.toNat < 128) (l : List UInt8) : runesL (c :: l) = (runesL l).map (c.toNat :: ·) := by
  have ho : okR (c.toNat : Int) = true := by rw [okR_iff]; omega
  have he : encL c.toNat = [c] := by unfold encL; rw [if_pos hc]; simp
  have hd := dec_enc c.toNat ho l
  have hg := enc_good c.toNat ho l
  rw [he] at hd hg
  rw [show [c] ++ l = c :: l from rfl] at hd hg
  rw [runesL_good _ (by simp) hg]
  rw [show decodeL (c :: l) = (c.toNat, 1) from hd]
  rfl
theorem firstW_one (x : List UInt8) : (firstW [(1, x)]).2 = wrongL x := by
  unfold firstW
  by_cases h : wrongL x = 0
  · rw [if_pos h, h]; rfl
  · rw [if_neg h]
/-- A remark is well just if its line is one, with which nothing is wrong. -/
theorem rem_line (l : List UInt8) : remOk l = (decide ((firstW (linesL (35 :: 32 :: l))).2 = 0) && !has10 (35 :: 32 :: l)) := by
  have h1 : has10 (35 :: 32 :: l) = has10 l := by
    rw [Bool.eq_iff_iff, has10_iff, has10_iff, List.mem_cons, List.mem_cons]
    exact ⟨fun h => by rcases h with h | h | h <;> first | exact h | exact absurd h (by decide), fun h => .inr (.inr h)⟩
  rw [h1]
  unfold remOk
  cases h : has10 l with
  | true => simp
  | false =>
    have hno : (10 : UInt8) ∉ 35 :: 32 :: l := by
      intro k
      have := (has10_iff (35 :: 32 :: l)).2 k
      rw [h1, h] at this
      cases this
    have e : linesL (35 :: 32 :: l) = [(1, 35 :: 32 :: l)] := by
      unfold linesL
      rw [split_none hno]
      rfl
    rw [e, firstW_one]
    unfold wrongL
    rw [runes_ascii 35 (by decide), runes_ascii 32 (by decide)]
    cases runesL l with
    | none => simp
    | some r =>
      simp only [Option.map_some, List.length_cons, Bool.not_false, Bool.true_and, Bool.and_true]
      apply decide_eq_decide.2
      constructor
      · intro k; rw [if_neg (by omega)]
      · intro k
        by_cases hq : 80 < r.length + 1 + 1
        · rw [if_pos hq] at k; omega
        · omega
end Go.Proofs.YthindbmgnkohhaaDoor
