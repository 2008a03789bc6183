/-
  Plain words: runes as UTF-8.
-/
import Derived.Test.YthindbmgnkohhaaDoorD9Rune
import Derived.Laws.Cover4
namespace Go.Proofs.YthindbmgnkohhaaDoor
set_option linter.unusedVariables false
set_option linter.unusedSimpArgs false
set_option maxRecDepth 10000
open Go.RowKit Go.Lib

/-- A rune's bytes. -/
def encL (c : Nat) : List UInt8 :=
  if c < 128 then [UInt8.ofNat c]
  else if c < 2048 then [UInt8.ofNat (192 + c / 64), UInt8.ofNat (128 + c % 64)]
  else if c < 65536 then [UInt8.ofNat (224 + c / 4096), UInt8.ofNat (128 + c / 64 % 64), UInt8.ofNat (128 + c % 64)]
  else [UInt8.ofNat (240 + c / 262144), UInt8.ofNat (128 + c / 4096 % 64), UInt8.ofNat (128 + c / 64 % 64), UInt8.ofNat (128 + c % 64)]
def okAll (l : List Int) : Bool := l.all okR
def textZ (l : List Int) : List UInt8 := l.flatMap fun r => encL r.toNat
theorem okR_iff (r : Int) : okR r = true ↔ (0 ≤ r ∧ r < 55296) ∨ (57343 < r ∧ r ≤ 1114111) := by simp [okR]
theorem encode_ok (r : Int) (h : okR r = true) : (Utf8.encode r).data.toList = encL r.toNat := by
  have hv : Utf8.valid r = true := by
    have := (okR_iff r).1 h
    unfold Utf8.valid
    simp
    omega
  unfold Utf8.encode encL
  simp only [hv, if_true]
  generalize r.toNat = c
  by_cases h1 : c < 128
  · simp [h1]
  · by_cases h2 : c < 2048
    · simp [h1, h2]
    · by_cases h3 : c < 65536
      · simp [h1, h2, h3]
      · simp [h1, h2, h3]
theorem runesBytes_ok (l : List Int) (h : okAll l = true) : runesBytes l = bA (textZ l) := by
  have key : ∀ (l : List Int) (s : ByteArray), okAll l = true → (l.foldl (fun r n => r ++ Utf8.encode n) s).data.toList = s.data.toList ++ textZ l := by
    intro l
    induction l with
    | nil => intro s _; simp [textZ]
    | cons n r ih =>
      intro s hl
      simp only [okAll, List.all_cons, Bool.and_eq_true] at hl
      rw [List.foldl_cons, ih _ hl.2, ByteArray.data_append, Array.toList_append, encode_ok n hl.1]
      simp [textZ]
  apply ba_ext
  rw [bA_list]
  unfold runesBytes
  rw [key l _ h]
  rfl
end Go.Proofs.YthindbmgnkohhaaDoor
