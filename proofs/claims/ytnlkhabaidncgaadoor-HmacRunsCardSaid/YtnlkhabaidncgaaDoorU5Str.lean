/-
  Slices of texts and of truths that come in; paymasterlaw05.Long, walked.
-/
import Derived.Test.YtnlkhabaidncgaaDoorU5Dig
import Derived.Test.YtnlkhabaidncgaaDoorW4Laid
import Derived.SliceStrings
import Derived.Deep.Grids
namespace Go.Proofs.YtnlkhabaidncgaaDoor
set_option linter.unusedVariables false
set_option linter.unusedSimpArgs false
open Go.ChangeShapes Go.WideShapes Go.ChangeAt Go.RowKit

/-- A row of texts below a height. -/
def StrRow (w : World) (B : Nat) (A : Option Addr) (ss : List ByteArray) : Prop := ∀ i s, ss[i]? = some s → ∃ ad, A = some ad ∧ ad.block < B ∧ w.cell? (ad.add i) = some (.string s)
/-- A row of truths below a height. -/
def BoolRow (w : World) (B : Nat) (A : Option Addr) (n : Nat) (f : Nat → Bool) : Prop := ∀ i, i < n → ∃ ad, A = some ad ∧ ad.block < B ∧ w.cell? (ad.add i) = some (.bool (f i))
theorem addr_block (a : Addr) (n : Nat) : (a.add n).block = a.block := by unfold Addr.add; split <;> rfl
theorem StrRow.call {w w' : World} {B : Nat} {A : Option Addr} {ss : List ByteArray} (h : StrRow w B A ss) (hb : Below B w w') : StrRow w' B A ss := fun i s hs => by
  obtain ⟨ad, e, hl, hc⟩ := h i s hs
  exact ⟨ad, e, hl, (hb.cell (by rw [addr_block]; exact hl)).trans hc⟩
theorem BoolRow.call {w w' : World} {B : Nat} {A : Option Addr} {n : Nat} {f : Nat → Bool} (h : BoolRow w B A n f) (hb : Below B w w') : BoolRow w' B A n f := fun i hi => by
  obtain ⟨ad, e, hl, hc⟩ := h i hi
  exact ⟨ad, e, hl, (hb.cell (by rw [addr_block]; exact hl)).trans hc⟩
/-- Texts joined; how many bytes they have. -/
def cat (l : List ByteArray) : ByteArray := l.foldl (· ++ ·) ⟨#[]⟩
def totN (l : List ByteArray) : Nat := l.foldl (fun a s => a + s.size) 0
theorem cat_snoc (l : List ByteArray) (s : ByteArray) : cat (l ++ [s]) = cat l ++ s := by simp [cat]
theorem totN_snoc (l : List ByteArray) (s : ByteArray) : totN (l ++ [s]) = totN l + s.size := by simp [totN]
theorem cat_size (l : List ByteArray) : (cat l).size = totN l := by
  have h : ∀ (n : Nat) (l : List ByteArray), l.length = n → (cat l).size = totN l := by
    intro n
    induction n with
    | zero => intro l hl; rw [List.length_eq_zero_iff.1 hl]; rfl
    | succ n ih =>
      intro l hl
      have hne : l ≠ [] := by intro e; rw [e] at hl; simp at hl
      rw [← List.dropLast_concat_getLast hne, cat_snoc, totN_snoc, ByteArray.size_append, ih _ (by rw [List.length_dropLast]; omega)]
  exact h _ l rfl
theorem totN_app (l m : List ByteArray) : totN (l ++ m) = totN l + totN m := by
  have h : ∀ (m : List ByteArray) (a : Nat), m.foldl (fun a s => a + s.size) a = a + totN m := by
    intro m
    induction m with
    | nil => intro a; rfl
    | cons s r ih => intro a; unfold totN; rw [List.foldl_cons, List.foldl_cons, ih, ih (0 + s.size)]; omega
  unfold totN
  rw [List.foldl_append, h]
  rfl
theorem totN_take (l : List ByteArray) (k : Nat) : totN (l.take k) ≤ totN l := by
  have h := totN_app (l.take k) (l.drop k)
  rw [List.take_append_drop] at h
  omega
theorem totN_bd : ∀ (l : List ByteArray), (∀ s ∈ l, s.size ≤ reachBytes) → totN l ≤ l.length * reachBytes := by
  intro l
  induction l with
  | nil => intro _; exact Nat.zero_le _
  | cons s r ih =>
    intro h
    have h1 := ih (fun x hx => h x (by simp [hx]))
    have h2 := h s (by simp)
    have h3 := totN_app [s] r
    simp only [List.singleton_append] at h3
    have h4 : totN [s] = s.size := by simp [totN]
    rw [h3, h4, List.length_cons, Nat.add_mul]
    omega
/-- Are pieces more than are gone through? -/
def longB (l : List ByteArray) : Bool := decide (40 < l.length) || decide (2000 < totN l)

set_option maxHeartbeats 2000000 in
theorem long_any (A : Option Addr) (c : Nat) (ss : List ByteArray) (hz : ∀ s ∈ ss, s.size ≤ reachBytes) (hm : ss.length ≤ 9223372036854775807) (w : World) (hr : StrRow w w.heap.size A ss) :
    Calls Tryd.prog 19 #[.slice A ss.length c] w (Plain (.bool (longB ss)) w) := by
  have hbd := totN_bd ss hz
  have HZ := hideIt hz
  have HB := hideIt hbd
  clear hbd hz
  have HM := hideIt hm
  go_enter Tryd.func19, Tryd.ntmps19
  go_wp2
  go_loopg [3, 4] ss.length (fun gk v i wr => ∃ (k : Nat) (x : Int), k ≤ ss.length ∧ gk = ss.length - k ∧ i = .int .i64 k ∧ v = .int .i64 x ∧ (ss.length ≤ 40 → x = (totN (ss.take k) : Int)) ∧ wr = w)
  case atStart => exact ⟨0, 0, by omega, rfl, rfl, rfl, fun _ => rfl, rfl⟩
  case round =>
    obtain ⟨k, x, hk, hgk, rfl, rfl, hx, rfl⟩ := hrel
    have HG := hideIt hgk
    clear hgk
    have HX := hideIt hx
    clear hx
    by_cases hlt : k < ss.length
    · obtain ⟨s, hs⟩ : ∃ s, ss[k]? = some s := ⟨_, List.getElem?_eq_getElem hlt⟩
      obtain ⟨ad, rfl, hl, hc⟩ := hr k s hs
      have b1 : (k : Int) < (ss.length : Int) := by omega
      have hsz : s.size ≤ reachBytes := HZ.out s (List.mem_of_getElem? hs)
      unfold reachBytes at hsz
      have htk : ss.take (k + 1) = ss.take k ++ [s] := by
        rw [List.take_add_one, hs]; rfl
      have HT := hideIt htk
      have hlt2 : (ad.add k).block < wr.heap.size := by rw [addr_block]; exact hl
      clear htk hs
      go_wp2
      all_goals
        go_roundg (ss.length - (k + 1))
        case measure => have := HG.out; omega
        case rel => exact ⟨k + 1, _, by omega, rfl, by go_num, rfl, fun h40 => by
          have h1 := HX.out h40
          have h2 := totN_take ss k
          have h3 := HB.out
          unfold reachBytes at h3
          have h4 : ss.length * 0x7ffffffff000 ≤ 40 * 0x7ffffffff000 := Nat.mul_le_mul_right _ h40
          rw [HT.out, totN_snoc, h1]
          first
            | (rw [IntWalk.i64_in _ (by omega)]; omega)
            | (rw [IntWalk.wrap64_in _ (by omega)]; omega)
            | omega, rfl⟩
    · have e : k = ss.length := by omega
      subst e
      rw [List.take_length] at HX
      have hd : longB ss = (decide ((40 : Int) < (ss.length : Int)) || decide ((2000 : Int) < x)) := by
        unfold longB
        by_cases h40 : ss.length ≤ 40
        · rw [HX.out h40]
          congr 1 <;> exact decide_eq_decide.2 (by omega)
        · have e1 : decide (40 < ss.length) = true := decide_eq_true (by omega)
          have e2 : decide ((40 : Int) < (ss.length : Int)) = true := decide_eq_true (by omega)
          rw [e1, e2]; rfl
      have HD := hideIt hd
      clear HG hd
      by_cases h1 : (40 : Int) < (ss.length : Int)
      · go_wp2
        go_ret
        exact ⟨by rw [HD.out, decide_eq_true h1]; rfl, rfl⟩
      · go_wp2
        go_ret
        exact ⟨by rw [HD.out, decide_eq_false (Int.not_lt.2 h1)]; rfl, rfl⟩

theorem weights_strs {H : Type} (e : TypeId) : ∀ (l : List ByteArray) (s : ByteArray), s ∈ l → s.size ∈ DataW.weightsAll Tryd.prog e (strs (H := H) l)
  | [], s, h => by simp at h
  | a :: l, s, h => by
    show s.size ∈ DataW.weightsAll Tryd.prog e ((DataW.lit (.string a.data.toList) : DataW H) :: strs l)
    simp only [DataW.weightsAll, DataW.weights, List.mem_append, List.mem_cons, List.not_mem_nil, or_false]
    rcases List.mem_cons.1 h with rfl | h
    · left; simp
    · right; exact weights_strs e l s h
theorem open_strs {H : Type} {enc : TypeId × Value → H} {W : World} {base : Nat} {v : Value} {d : DataW H} {p : List MemPlace} (hval : Value.okWide Tryd.prog W .any base 29 v)
    (h : DataW.Trod enc Tryd.prog W 0 (fun _ => true) true 29 v d p) (hw : ∀ n ∈ DataW.weights Tryd.prog 29 d, n ≤ reachBytes) :
    ∃ (A : Option Addr) (c : Nat) (ss : List ByteArray), v = .slice A ss.length c ∧ ss.length ≤ 9223372036854775807 ∧ (∀ s ∈ ss, s.size ≤ reachBytes) ∧ StrRow W W.heap.size A ss := by
  obtain ⟨a', len, cap, rfl⟩ := okWide_slice Tryd.underlying29 hval
  obtain ⟨fuel, hf⟩ := h
  have hC : Tryd.prog.cellsOf 9 = 1 := by kernel_rfl
  rcases open_strings Tryd.underlying29 Tryd.underlying9 hC hf with ⟨hcs, -⟩ | ⟨a, len', cap', ss, hcs, -, hl, hm, hz, hd, hcell, hsz⟩
  · have hcell : Value.slice a' len cap = .slice none 0 0 := by simpa [Value.cells] using hcs
    injection hcell with e1 e2 e3
    subst e1 e2 e3
    exact ⟨none, 0, [], rfl, Nat.zero_le _, fun s hs => by simp at hs, fun i s hs => by simp at hs⟩
  · have hv : Value.slice a' len cap = .slice (some a) len' cap' := by simpa [Value.cells] using hcs
    injection hv with e1 e2 e3
    subst e1 e2 e3
    injection hd with hd1 hd2
    subst hd1
    simp only [if_true] at hz
    unfold maxLen at hm
    have hlt : (ss.take len).length = len := by rw [List.length_take]; omega
    refine ⟨some a, cap, ss.take len, by rw [hlt], by rw [hlt]; omega, fun s hs => hw _ ?_, fun i s hs => ?_⟩
    · simp only [DataW.weights, Tryd.underlying29, List.mem_cons, List.mem_append]
      exact .inr (.inl (weights_strs _ _ s hs))
    obtain ⟨hi, e⟩ := List.getElem?_eq_some_iff.1 hs
    rw [hlt] at hi
    have hc := hcell i (by omega)
    have e2 : ss.getD i ByteArray.empty = s := by
      rw [← e, List.getElem_take, List.getD_eq_getElem?_getD, List.getElem?_eq_getElem (by omega)]; rfl
    rw [e2] at hc
    have := World.block_lt_of_cell? _ _ hc
    rw [addr_block] at this
    exact ⟨a, rfl, this, hc⟩
end Go.Proofs.YtnlkhabaidncgaaDoor
