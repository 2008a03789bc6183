/- Several of my texts, laid as one. -/
import Derived.Test.YtngofpdpangajaaDoorD10Sort
import Derived.Test.YtngofpdpangajaaDoorD7Tag
import Derived.Test.YtngofpdpangajaaDoorT10Row
import Derived.Test.YtngofpdpangajaaDoorW1Has
import Derived.Test.YtngofpdpangajaaDoorRows
import Derived.Test.YtngofpdpangajaaDoorW11Set
import Derived.Maps.OwnSet
import Derived.WalkKit
import Derived.WalkSpells
import Derived.StillTactics
import Derived.RowKit3
import Derived.Outline
import Derived.BigQuiet
import Derived.Deep.QuietTactic
import Derived.LoopTactic
import Derived.Deep.RegionWith
import Derived.Deep.LoopGhost
/-
  Plain words on accounts: an account, its cells, the first one of which something is so, free slots, who is placed where.
-/
namespace Go.Proofs.YtngofpdpangajaaDoor
set_option linter.unusedVariables false
set_option linter.unusedSimpArgs false
set_option maxRecDepth 10000
open Go.RowKit Go.Sort

/-- An account, plainly. -/
structure Ac where
  id : ByteArray
  h : Int
  l : Int
  salt : ByteArray
  slot : Int
def Ac.val (x : Ac) : Value := .agg #[.string x.id, .int .u64 x.h, .int .u64 x.l, .string x.salt, .int .u64 x.slot]
def Ac.cells (x : Ac) : List Value := [.string x.id, .int .u64 x.h, .int .u64 x.l, .string x.salt, .int .u64 x.slot]
def Ac.zero : Ac := ⟨⟨#[]⟩, 0, 0, ⟨#[]⟩, 0⟩
/-- Its numbers are such of 64 bits. -/
def Ac.ok (x : Ac) : Prop := Word x.h ∧ Word x.l ∧ Word x.slot
theorem word_nil : Word 0 := ⟨by decide, by decide⟩
theorem aczero_ok : Ac.zero.ok := ⟨word_nil, word_nil, word_nil⟩
def keyA (x : Ac) : List UInt8 := x.id.data.toList
/-- An account's leaf. -/
def lfA (x : Ac) : Lf := ⟨false, x.id, x.salt, x.h, x.l⟩

theorem take_more1 {α : Type} {l : List α} {i : Nat} {x : α} (h : l[i]? = some x) : l.take (i + 1) = l.take i ++ [x] := by rw [List.take_add_one, h]; rfl
/-- The cells of accounts. -/
def accCs (l : List Ac) : List Value := l.flatMap Ac.cells
theorem accCs_snoc (l : List Ac) (x : Ac) : accCs (l ++ [x]) = accCs l ++ x.cells := by simp [accCs]
theorem accCs_app (a b : List Ac) : accCs (a ++ b) = accCs a ++ accCs b := by simp [accCs]
theorem accCs_len (l : List Ac) : (accCs l).length = l.length * 5 := by
  induction l with
  | nil => rfl
  | cons x r ih => simp only [accCs, List.flatMap_cons, List.length_append] at *; rw [ih]; simp [Ac.cells]; omega
theorem accCs_at (l : List Ac) (i : Nat) (x : Ac) (h : l[i]? = some x) (j : Nat) (hj : j < 5) : (accCs l)[i * 5 + j]? = x.cells[j]? := by
  induction l generalizing i with
  | nil => simp at h
  | cons y r ih =>
    cases i with
    | zero =>
      obtain rfl : y = x := by simpa using h
      simp only [accCs, List.flatMap_cons]
      rw [List.getElem?_append_left (by simp [Ac.cells]; omega)]
      simp
    | succ i =>
      simp only [accCs, List.flatMap_cons]
      rw [List.getElem?_append_right (by simp [Ac.cells]; omega)]
      have := ih i (by simpa using h)
      rw [← this]
      have e : y.cells.length = 5 := rfl
      rw [e, show (i + 1) * 5 + j - 5 = i * 5 + j by omega]
      rfl
theorem accells_one (x : Ac) : ∀ u ∈ x.cells, u.oneCell' = true := by
  intro u hu
  simp only [Ac.cells, List.mem_cons, List.not_mem_nil, or_false] at hu
  rcases hu with rfl | rfl | rfl | rfl | rfl <;> rfl
theorem accCs_one (l : List Ac) : ∀ u ∈ accCs l, u.oneCell' = true := by
  intro u hu
  obtain ⟨x, -, hx⟩ := List.mem_flatMap.1 hu
  exact accells_one x u hx
theorem accCs_set (l : List Ac) (i : Nat) (x : Ac) (hi : i < l.length) :
    (((((accCs l).set (i * 5) (.string x.id)).set (i * 5 + 1) (.int .u64 x.h)).set (i * 5 + 2) (.int .u64 x.l)).set (i * 5 + 3) (.string x.salt)).set (i * 5 + 4) (.int .u64 x.slot) = accCs (l.set i x) := by
  induction l generalizing i with
  | nil => simp at hi
  | cons y r ih =>
    cases i with
    | zero => simp [accCs, Ac.cells]
    | succ i =>
      have e : accCs (y :: r) = y.cells ++ accCs r := by simp [accCs]
      have e2 : accCs ((y :: r).set (i + 1) x) = y.cells ++ accCs (r.set i x) := by simp [accCs]
      have hl : y.cells.length = 5 := rfl
      rw [e, e2, ← ih i (by simpa using hi)]
      rw [List.set_append_right _ _ (by rw [hl]; omega), List.set_append_right _ _ (by rw [hl]; omega), List.set_append_right _ _ (by rw [hl]; omega), List.set_append_right _ _ (by rw [hl]; omega), List.set_append_right _ _ (by rw [hl]; omega), hl]
      rw [show (i + 1) * 5 - 5 = i * 5 by omega, show (i + 1) * 5 + 1 - 5 = i * 5 + 1 by omega, show (i + 1) * 5 + 2 - 5 = i * 5 + 2 by omega, show (i + 1) * 5 + 3 - 5 = i * 5 + 3 by omega, show (i + 1) * 5 + 4 - 5 = i * 5 + 4 by omega]

/-- The first one of which it is so. -/
def firstA (p : Ac → Bool) : List Ac → Ac × Bool
  | [] => (Ac.zero, false)
  | x :: r => if p x then (x, true) else firstA p r
def findA (l : List Ac) (k : List UInt8) : Ac × Bool := firstA (fun a => decide (keyA a = k)) l
def atA (l : List Ac) (n : Int) : Ac × Bool := firstA (fun a => decide (a.slot = n)) l
theorem firstA_hit {p : Ac → Bool} {l : List Ac} {i : Nat} {x : Ac} (hb : ∀ j y, j < i → l[j]? = some y → p y = false) (hx : l[i]? = some x) (hk : p x = true) : firstA p l = (x, true) := by
  induction l generalizing i with
  | nil => simp at hx
  | cons y r ih =>
    unfold firstA
    cases i with
    | zero =>
      obtain rfl : y = x := by simpa using hx
      rw [if_pos hk]
    | succ i =>
      rw [if_neg (by rw [hb 0 y (Nat.succ_pos _) rfl]; exact Bool.noConfusion)]
      exact ih (i := i) (fun j z hj hz => hb (j + 1) z (by omega) (by simpa using hz)) (by simpa using hx)
theorem firstA_none {p : Ac → Bool} {l : List Ac} (hb : ∀ j y, j < l.length → l[j]? = some y → p y = false) : firstA p l = (Ac.zero, false) := by
  induction l with
  | nil => rfl
  | cons y r ih =>
    unfold firstA
    rw [if_neg (by rw [hb 0 y (by simp) rfl]; exact Bool.noConfusion)]
    exact ih fun j z hj hz => hb (j + 1) z (by simp; omega) (by simpa using hz)
theorem firstA_has (p : Ac → Bool) (l : List Ac) : (firstA p l).2 = l.any p := by
  induction l with
  | nil => rfl
  | cons x r ih =>
    unfold firstA
    rw [List.any_cons]
    cases h : p x with
    | true => simp
    | false => simpa using ih
theorem firstA_yes {p : Ac → Bool} {l : List Ac} (h : (firstA p l).2 = true) : (firstA p l).1 ∈ l ∧ p (firstA p l).1 = true := by
  induction l with
  | nil => cases h
  | cons x r ih =>
    unfold firstA at h ⊢
    cases hp : p x with
    | true => rw [if_pos rfl]; exact ⟨by simp, hp⟩
    | false =>
      rw [hp] at h
      rw [if_neg Bool.noConfusion] at h ⊢
      obtain ⟨h1, h2⟩ := ih h
      exact ⟨by simp [h1], h2⟩
theorem firstA_no {p : Ac → Bool} {l : List Ac} (h : (firstA p l).2 = false) : firstA p l = (Ac.zero, false) := by
  induction l with
  | nil => rfl
  | cons x r ih =>
    unfold firstA at h ⊢
    cases hp : p x with
    | true => rw [hp] at h; cases h
    | false =>
      rw [hp] at h
      rw [if_neg Bool.noConfusion] at h ⊢
      exact ih h
theorem at_has (l : List Ac) (n : Int) : (atA l n).2 = decide (n ∈ l.map Ac.slot) := by
  unfold atA
  rw [firstA_has, Bool.eq_iff_iff, List.any_eq_true, decide_eq_true_eq, List.mem_map]
  simp
theorem find_has (l : List Ac) (k : List UInt8) : (findA l k).2 = decide (k ∈ l.map keyA) := by
  unfold findA
  rw [firstA_has, Bool.eq_iff_iff, List.any_eq_true, decide_eq_true_eq, List.mem_map]
  simp
/-- Of unlike ones, the one that is so is the first. -/
theorem firstA_own {β : Type} [DecidableEq β] {f : Ac → β} {l : List Ac} (hd : (l.map f).Nodup) {x : Ac} (hx : x ∈ l) : firstA (fun a => decide (f a = f x)) l = (x, true) := by
  induction l with
  | nil => cases hx
  | cons y r ih =>
    unfold firstA
    rw [List.map_cons, List.nodup_cons] at hd
    rcases List.mem_cons.1 hx with rfl | hx
    · simp
    · have : f y ≠ f x := fun e => hd.1 (e ▸ List.mem_map_of_mem hx)
      rw [if_neg (by simpa using this)]
      exact ih hd.2 hx

/-- The step-th slot from that one on, round and round. -/
def sq (A f : Int) (s : Nat) : Int := (f % A + s) % A
theorem sq_step (A f : Int) (s : Nat) : (sq A f s + 1) % A = sq A f (s + 1) := by
  unfold sq
  rw [Int.emod_add_emod]
  congr 1
  omega
theorem sq_zero (A f : Int) : sq A f 0 = f % A := by
  unfold sq
  rw [show (f % A + ((0 : Nat) : Int)) = f % A by omega, Int.emod_emod_of_dvd _ (Int.dvd_refl _)]
theorem sq_bd {A : Int} (hA : 0 < A) (f : Int) (s : Nat) : 0 ≤ sq A f s ∧ sq A f s < A := ⟨Int.emod_nonneg _ (by omega), Int.emod_lt_of_pos _ hA⟩
/-- The first free slot among so many, from the step-th on. -/
def freeK (A : Int) (ks : List Int) (f : Int) : Nat → Nat → Int × Bool
  | 0, _ => (0, false)
  | n + 1, s => if sq A f s ∈ ks then freeK A ks f n (s + 1) else (sq A f s, true)
def freeF (A : Int) (ks : List Int) (f : Int) : Int × Bool := freeK A ks f A.toNat 0
theorem freeK_skip (A : Int) (ks : List Int) (f : Int) : ∀ (s n : Nat), (∀ j, j < s → sq A f j ∈ ks) → s ≤ n → freeK A ks f n 0 = freeK A ks f (n - s) s := by
  intro s
  induction s with
  | zero => intro n _ _; rfl
  | succ s ih =>
    intro n h hn
    rw [ih n (fun j hj => h j (by omega)) (by omega)]
    obtain ⟨m, hm⟩ : ∃ m, n - s = m + 1 := ⟨n - s - 1, by omega⟩
    rw [hm, freeK, if_pos (h s (by omega)), show n - (s + 1) = m by omega]
theorem freeF_hit {A : Int} {ks : List Int} {f : Int} {s : Nat} (h : ∀ j, j < s → sq A f j ∈ ks) (hs : (s : Int) < A) (hn : sq A f s ∉ ks) : freeF A ks f = (sq A f s, true) := by
  unfold freeF
  rw [freeK_skip A ks f s _ h (by omega)]
  obtain ⟨m, hm⟩ : ∃ m, A.toNat - s = m + 1 := ⟨A.toNat - s - 1, by omega⟩
  rw [hm, freeK, if_neg hn]
theorem freeF_none {A : Int} {ks : List Int} {f : Int} (h : ∀ j : Nat, (j : Int) < A → sq A f j ∈ ks) : freeF A ks f = (0, false) := by
  unfold freeF
  rw [freeK_skip A ks f A.toNat _ (fun j hj => h j (by omega)) (Nat.le_refl _), Nat.sub_self]
  rfl
/-- What a free slot is. -/
theorem freeF_spec (A : Int) (ks : List Int) (f : Int) : (∃ s : Nat, (s : Int) < A ∧ (∀ j, j < s → sq A f j ∈ ks) ∧ sq A f s ∉ ks ∧ freeF A ks f = (sq A f s, true)) ∨ ((∀ j : Nat, (j : Int) < A → sq A f j ∈ ks) ∧ freeF A ks f = (0, false)) := by
  by_cases h : ∀ j : Nat, (j : Int) < A → sq A f j ∈ ks
  · exact .inr ⟨h, freeF_none h⟩
  · have key : ∀ n : Nat, (∀ j, j < n → (j : Int) < A → sq A f j ∈ ks) ∨ ∃ s, s < n ∧ (s : Int) < A ∧ (∀ j, j < s → sq A f j ∈ ks) ∧ sq A f s ∉ ks := by
      intro n
      induction n with
      | zero => exact .inl fun j hj => absurd hj (Nat.not_lt_zero _)
      | succ n ih =>
        rcases ih with ih | ⟨s, h1, h2⟩
        · by_cases hn : (n : Int) < A → sq A f n ∈ ks
          · refine .inl fun j hj hA => ?_
            by_cases e : j = n
            · subst e; exact hn hA
            · exact ih j (by omega) hA
          · rw [Classical.not_imp] at hn
            exact .inr ⟨n, by omega, hn.1, fun j hj => ih j hj (by omega), hn.2⟩
        · exact .inr ⟨s, by omega, h2⟩
    rcases key A.toNat with k | ⟨s, h1, h2, h3, h4⟩
    · exact absurd (fun j hj => k j (by omega) hj) h
    · exact .inl ⟨s, h2, h3, h4, freeF_hit h3 h2 h4⟩
theorem freeF_same {A : Int} {ks ms : List Int} {f : Int} (h : ∀ n, n ∈ ks ↔ n ∈ ms) : freeF A ks f = freeF A ms f := by
  unfold freeF
  generalize A.toNat = n
  generalize 0 = s
  induction n generalizing s with
  | zero => rfl
  | succ n ih =>
    unfold freeK
    rw [ih]
    simp only [h]
end Go.Proofs.YtngofpdpangajaaDoor
/-
  Accounts in memory: a row of accounts, a block of them; arguments opened.
-/
namespace Go.Proofs.YtngofpdpangajaaDoor
set_option linter.unusedVariables false
set_option linter.unusedSimpArgs false
set_option maxRecDepth 10000
open Go.ChangeShapes Go.WideShapes Go.ChangeAt Go.RowKit

/-- An account's cells lie there. -/
def AcAt (w : World) (a : Addr) (x : Ac) : Prop := w.cell? a = some (.string x.id) ∧ w.cell? ⟨a.block, a.off + 1, none⟩ = some (.int .u64 x.h) ∧ w.cell? ⟨a.block, a.off + 2, none⟩ = some (.int .u64 x.l) ∧
  w.cell? ⟨a.block, a.off + 3, none⟩ = some (.string x.salt) ∧ w.cell? ⟨a.block, a.off + 4, none⟩ = some (.int .u64 x.slot)
theorem AcAt.keep {w w' : World} {a : Addr} {x : Ac} (h : AcAt w a x) (e : w'.heap[a.block]? = w.heap[a.block]?) : AcAt w' a x :=
  ⟨(World.cell?_of_block (w := w) e).trans h.1, (World.cell?_of_block (w := w) (a := ⟨a.block, a.off + 1, none⟩) e).trans h.2.1, (World.cell?_of_block (w := w) (a := ⟨a.block, a.off + 2, none⟩) e).trans h.2.2.1,
    (World.cell?_of_block (w := w) (a := ⟨a.block, a.off + 3, none⟩) e).trans h.2.2.2.1, (World.cell?_of_block (w := w) (a := ⟨a.block, a.off + 4, none⟩) e).trans h.2.2.2.2⟩
/-- Accounts of a row, below a height. -/
def AcRow (w : World) (B : Nat) (A : Option Addr) (xs : List Ac) : Prop := ∀ i x, xs[i]? = some x → ∃ ad, A = some ad ∧ ad.block < B ∧ AcAt w (ad.add (i * 5)) x
theorem AcRow.call {w w' : World} {B : Nat} {A : Option Addr} {xs : List Ac} (h : AcRow w B A xs) (hb : Below B w w') : AcRow w' B A xs := fun i x hx => by
  obtain ⟨ad, e, hl, hc⟩ := h i x hx
  exact ⟨ad, e, hl, hc.keep (by rw [o10_block]; exact hb.block _ hl)⟩
theorem AcRow.more {w : World} {B B' : Nat} {A : Option Addr} {xs : List Ac} (h : AcRow w B A xs) (hb : B ≤ B') : AcRow w B' A xs := fun i s hs => by
  obtain ⟨ad, e, hl, hc⟩ := h i s hs
  exact ⟨ad, e, Nat.lt_of_lt_of_le hl hb, hc⟩
theorem AcRow.nil (w : World) (B : Nat) (A : Option Addr) : AcRow w B A [] := fun i x hx => by simp at hx
def AllAc (xs : List Ac) : Prop := ∀ x ∈ xs, x.ok
theorem acc_cells {H : Type} {enc : TypeId × Value → H} {W : World} {fuel : Nat} {cs : List Value} {y : DataW H × List MemPlace} (hh : DataW.trod enc Tryd.prog W 0 (fun _ => true) true fuel 38 cs = some y) :
    ∃ x : Ac, cs = x.cells ∧ (x.id.size ≤ 9223372036854775807 ∧ x.salt.size ≤ 9223372036854775807) ∧ x.ok := by
  obtain ⟨y0, y1, y2, y3, n, -, hl, t0, t1, t2, t3⟩ := Go.Joins.trod_struct4 Tryd.underlying38 hh
  have h5 : cs.length = 5 := hl.trans (show Tryd.prog.cellsOf 38 = 5 by kernel_rfl)
  obtain ⟨c0, c1, c2, c3, c4, rfl⟩ : ∃ c0 c1 c2 c3 c4, cs = [c0, c1, c2, c3, c4] := by
    match cs, h5 with
    | [c0, c1, c2, c3, c4], _ => exact ⟨c0, c1, c2, c3, c4, rfl⟩
  have o0 : Tryd.prog.cellsOf 34 = 1 := by kernel_rfl
  have o1 : Tryd.prog.cellsOf 36 = 2 := by kernel_rfl
  have o3 : Tryd.prog.cellsOf 9 = 1 := by kernel_rfl
  have t0' : DataW.trod enc Tryd.prog W 0 (fun _ => true) true n 9 [c0] = some y0 := by simpa [Value.cells, o3] using t0
  have t1' : DataW.trod enc Tryd.prog W 0 (fun _ => true) true n 36 [c1, c2] = some y1 := by simpa [Value.cells, o1] using t1
  have t2' : DataW.trod enc Tryd.prog W 0 (fun _ => true) true n 9 [c3] = some y2 := by simpa [Value.cells, o3] using t2
  have t3' : DataW.trod enc Tryd.prog W 0 (fun _ => true) true n 34 [c4] = some y3 := by simpa [Value.cells, o0] using t3
  obtain ⟨z0, z1, k, -, -, s0, s1⟩ := trod_struct2 Tryd.underlying36 t1'
  have s0' : DataW.trod enc Tryd.prog W 0 (fun _ => true) true k 34 [c1] = some z0 := by simpa [o0] using s0
  have s1' : DataW.trod enc Tryd.prog W 0 (fun _ => true) true k 34 [c2] = some z1 := by simpa [o0] using s1
  obtain ⟨s, es, -, ws⟩ := DataW.trod_string Tryd.underlying9 t0'
  obtain ⟨h, eh, -, wh⟩ := DataW.trod_int Tryd.underlying34 s0'
  obtain ⟨l, el, -, wl⟩ := DataW.trod_int Tryd.underlying34 s1'
  obtain ⟨sa, ea, -, wa⟩ := DataW.trod_string Tryd.underlying9 t2'
  obtain ⟨sl, eo, -, wo⟩ := DataW.trod_int Tryd.underlying34 t3'
  simp at es eh el ea eo
  subst es eh el ea eo
  exact ⟨⟨s, h, l, sa, sl⟩, rfl, ⟨ws, wa⟩, word_of wh, word_of wl, word_of wo⟩
/-- A row of accounts, opened. -/
theorem open_accs {H : Type} {enc : TypeId × Value → H} {W : World} {base : Nat} {v : Value} {d : DataW H} {p : List MemPlace} (hval : Value.okWide Tryd.prog W .any base 22 v)
    (h : DataW.Trod enc Tryd.prog W 0 (fun _ => true) true 22 v d p) :
    ∃ (A : Option Addr) (c : Nat) (xs : List Ac), v = .slice A xs.length c ∧ xs.length ≤ 9223372036854775807 ∧ (A = none → c = 0) ∧ (∀ x ∈ xs, x.id.size ≤ 9223372036854775807 ∧ x.salt.size ≤ 9223372036854775807) ∧ AllAc xs ∧ AcRow W W.heap.size A xs := by
  obtain ⟨a', len, cap, rfl⟩ := okWide_slice Tryd.underlying22 hval
  obtain ⟨fuel, hf⟩ := h
  rcases Go.Deep.open_slice Tryd.underlying22 hf with ⟨hc, -⟩ | ⟨a, len', cap', m, n, D, Pl, hc, hb, hl, hm, hmm, -, hi⟩
  · have hcell : Value.slice a' len cap = .slice none 0 0 := by simpa [Value.cells] using hc
    injection hcell with e1 e2 e3
    subst e1 e2 e3
    exact ⟨none, 0, [], rfl, Nat.zero_le _, fun _ => rfl, fun x hx => by simp at hx, fun x hx => by simp at hx, fun i x hx => by simp at hx⟩
  · have hcell : Value.slice a' len cap = .slice (some a) len' cap' := by simpa [Value.cells] using hc
    have hC : Tryd.prog.cellsOf 38 = 5 := by kernel_rfl
    simp only [if_true] at hmm
    have each : ∀ i, i < len' → ∃ x : Ac, ((x.id.size ≤ 9223372036854775807 ∧ x.salt.size ≤ 9223372036854775807) ∧ x.ok) ∧ AcAt W (a.add (i * 5)) x := fun i hil => by
      obtain ⟨cs', hcs, ht⟩ := hi i (by rw [hmm]; omega)
      rw [hC] at hcs
      obtain ⟨_, hcl, hat⟩ := World.cells?_some hcs
      obtain ⟨x, rfl, hx1, hx2⟩ := acc_cells ht
      have h0 := hat 0 (by show 0 < 5; omega)
      have h1 := hat 1 (by show 1 < 5; omega)
      have h2 := hat 2 (by show 2 < 5; omega)
      have h3 := hat 3 (by show 3 < 5; omega)
      have h4 := hat 4 (by show 4 < 5; omega)
      rw [show (a.add (i * 5)).add 0 = a.add (i * 5) by rw [o10_add, Nat.add_zero]] at h0
      exact ⟨x, ⟨hx1, hx2⟩, h0, h1, h2, h3, h4⟩
    obtain ⟨xs, hxl, hxp⟩ := o10_choose len' each
    injection hcell with e1 e2 e3
    subst e1 e2 e3
    subst hxl
    unfold maxLen at hm
    refine ⟨some a, cap, xs, rfl, by omega, (fun h => nomatch h), fun x hx => ?_, fun x hx => ?_, fun i x hx => ?_⟩
    · obtain ⟨i, hi', rfl⟩ := List.getElem_of_mem hx
      exact (hxp i hi').1.1
    · obtain ⟨i, hi', rfl⟩ := List.getElem_of_mem hx
      exact (hxp i hi').1.2
    · obtain ⟨hi', e⟩ := List.getElem?_eq_some_iff.1 hx
      obtain ⟨-, h0⟩ := hxp i hi'
      rw [e] at h0
      have := World.block_lt_of_cell? _ _ h0.1
      rw [o10_block] at this
      exact ⟨a, rfl, this, h0⟩
/-- A row of the call's own, read. -/
theorem accs_of_own {b : Nat} {W : World} {v : Value} {l : List Ac} (h : W.ownsRow b 38 5 v l.length (accCs l)) : ∃ A c, v = .slice A l.length c ∧ (A = none → c = 0) ∧ AcRow W W.heap.size A l := by
  rcases h.2 with ⟨h1, h2⟩ | ⟨g, cap, cur, hv, hg, hh, hc, hm, hsz, hcur⟩
  · have e : l = [] := List.eq_nil_of_length_eq_zero h2
    subst e
    exact ⟨none, 0, h1, fun _ => rfl, AcRow.nil _ _ _⟩
  · refine ⟨some ⟨g, 0, none⟩, cap, hv, (fun h => nomatch h), fun i x hx => ⟨_, rfl, (Array.getElem?_eq_some_iff.1 hh).1, ?_⟩⟩
    have hil : i < l.length := (List.getElem?_eq_some_iff.1 hx).1
    have key : ∀ j, j < 5 → W.cell? ⟨g, i * 5 + j, none⟩ = x.cells[j]? := fun j hj => by
      rw [← accCs_at l i x hx j hj, ← hcur, List.getElem?_take_of_lt (by omega)]
      rw [cell_of_row W g (i * 5 + j) cur _ _ hh]
      simp
    have e1 : (⟨g, 0, none⟩ : Addr).add (i * 5) = ⟨g, i * 5, none⟩ := by simp [Addr.add]; exact fun hj => hj.symm
    rw [e1]
    have k0 := key 0 (by omega)
    rw [Nat.add_zero] at k0
    exact ⟨k0, key 1 (by omega), key 2 (by omega), key 3 (by omega), key 4 (by omega)⟩

/-- Block g holds just these accounts. -/
def AcBox (w : World) (g : Nat) (d : List Ac) : Prop := Box w g 38 (accCs d).toArray
section
variable {w w' : World} {g : Nat} {d : List Ac}
theorem AcBox.inside (h : AcBox w g d) : g < w.heap.size := Box.inside h
theorem AcBox.call (h : AcBox w g d) (hb : Below w.heap.size w w') : AcBox w' g d := Box.call h hb
theorem AcBox.past (h : AcBox w g d) (o : Obj) : AcBox (w.alloc o) g d := Box.past h o
theorem AcBox.row (h : AcBox w g d) : AcRow w w.heap.size (some ⟨g, 0, none⟩) d := fun i x hx => by
  have key : ∀ j, j < 5 → w.cell? ⟨g, i * 5 + j, none⟩ = x.cells[j]? := fun j hj => by
    rw [Box.read h]
    simp only [List.getElem?_toArray]
    exact accCs_at d i x hx j hj
  have e1 : (⟨g, 0, none⟩ : Addr).add (i * 5) = ⟨g, i * 5, none⟩ := by simp [Addr.add]; exact fun hj => hj.symm
  refine ⟨_, rfl, h.inside, ?_⟩
  rw [e1]
  have k0 := key 0 (by omega)
  rw [Nat.add_zero] at k0
  exact ⟨k0, key 1 (by omega), key 2 (by omega), key 3 (by omega), key 4 (by omega)⟩
theorem AcBox.free (h : AcBox w g d) (i : Nat) : w.frozen? ⟨g, i, none⟩ = false := Box.free h i
theorem AcBox.at (h : AcBox w g d) (i : Nat) (hi : i < d.length) : ∃ x, d[i]? = some x ∧ w.cell? ⟨g, i * 5, none⟩ = some (.string x.id) ∧ w.cell? ⟨g, i * 5 + 1, none⟩ = some (.int .u64 x.h) ∧ w.cell? ⟨g, i * 5 + 2, none⟩ = some (.int .u64 x.l) ∧
    w.cell? ⟨g, i * 5 + 3, none⟩ = some (.string x.salt) ∧ w.cell? ⟨g, i * 5 + 4, none⟩ = some (.int .u64 x.slot) := by
  obtain ⟨x, hx⟩ : ∃ x, d[i]? = some x := ⟨_, List.getElem?_eq_getElem hi⟩
  obtain ⟨ad, e, -, hc⟩ := h.row i x hx
  injection e with e
  subst e
  have e1 : (⟨g, 0, none⟩ : Addr).add (i * 5) = ⟨g, i * 5, none⟩ := by simp [Addr.add]; exact fun hj => hj.symm
  rw [e1] at hc
  exact ⟨x, hx, hc⟩
theorem AcBox.put (h : AcBox w g d) (i : Nat) (x : Ac) (hi : i < d.length) :
    AcBox (((((w.setCell ⟨g, i * 5, none⟩ (.string x.id)).setCell ⟨g, i * 5 + 1, none⟩ (.int .u64 x.h)).setCell ⟨g, i * 5 + 2, none⟩ (.int .u64 x.l)).setCell ⟨g, i * 5 + 3, none⟩ (.string x.salt)).setCell ⟨g, i * 5 + 4, none⟩ (.int .u64 x.slot)) g (d.set i x) := by
  have h1 := ((((Box.wrote h (i * 5) (.string x.id)).wrote (i * 5 + 1) (.int .u64 x.h)).wrote (i * 5 + 2) (.int .u64 x.l)).wrote (i * 5 + 3) (.string x.salt)).wrote (i * 5 + 4) (.int .u64 x.slot)
  unfold AcBox
  rw [← accCs_set d i x hi]
  have e : ∀ l : List Value, ∀ k v, l.toArray.setIfInBounds k v = (l.set k v).toArray := fun l k v => by simp
  rw [e, e, e, e, e] at h1
  exact h1
end
theorem below5_put {B : Nat} {w W : World} {g : Nat} (h : Below B w W) (hg : B ≤ g) (i j k m n : Nat) (x y z u v : Value) :
    Below B w (((((W.setCell ⟨g, i, none⟩ x).setCell ⟨g, j, none⟩ y).setCell ⟨g, k, none⟩ z).setCell ⟨g, m, none⟩ u).setCell ⟨g, n, none⟩ v) :=
  ((((h.setCell (p := ⟨g, i, none⟩) hg x).setCell (p := ⟨g, j, none⟩) hg y).setCell (p := ⟨g, k, none⟩) hg z).setCell (p := ⟨g, m, none⟩) hg u).setCell (p := ⟨g, n, none⟩) hg v
theorem box5_put {w : World} {g : Nat} {t : TypeId} {x y z u v : Value} (h : Box w g t #[x, y, z, u, v]) (a b c d e : Value) :
    Box (((((w.setCell ⟨g, 0, none⟩ a).setCell ⟨g, 1, none⟩ b).setCell ⟨g, 2, none⟩ c).setCell ⟨g, 3, none⟩ d).setCell ⟨g, 4, none⟩ e) g t #[a, b, c, d, e] := by
  have := ((((h.wrote 0 a).wrote 1 b).wrote 2 c).wrote 3 d).wrote 4 e
  simpa using this
theorem Box.five {w : World} {g : Nat} {t : TypeId} {a b c d e : Value} (h : Box w g t #[a, b, c, d, e]) :
    w.cell? ⟨g, 0, none⟩ = some a ∧ w.cell? ⟨g, 1, none⟩ = some b ∧ w.cell? ⟨g, 2, none⟩ = some c ∧ w.cell? ⟨g, 3, none⟩ = some d ∧ w.cell? ⟨g, 4, none⟩ = some e ∧
    w.frozen? ⟨g, 0, none⟩ = false ∧ w.frozen? ⟨g, 1, none⟩ = false ∧ w.frozen? ⟨g, 2, none⟩ = false ∧ w.frozen? ⟨g, 3, none⟩ = false ∧ w.frozen? ⟨g, 4, none⟩ = false ∧ g < w.heap.size :=
  ⟨h.read 0, h.read 1, h.read 2, h.read 3, h.read 4, h.free 0, h.free 1, h.free 2, h.free 3, h.free 4, h.inside⟩
end Go.Proofs.YtngofpdpangajaaDoor
/-
  A set of slots of the call's own, and its map of accounts by their Ids.
-/
namespace Go.Proofs.YtngofpdpangajaaDoor
set_option linter.unusedVariables false
set_option linter.unusedSimpArgs false
set_option maxRecDepth 10000
open Go.RowKit Go.Maps Go.WideMaps

theorem slotset_law : Keyed Tryd.prog 34 := int_keyed Tryd.underlying34
theorem und_taken : Tryd.prog.underlying 77 = some (.map 34 81) := Tryd.underlying77
theorem word_wf {x : Int} (h : Word x) : (Lit.int .u64 x).wf = true := by
  obtain ⟨h1, h2⟩ := h
  simp [Lit.wf, IntKind.min, IntKind.max, IntKind.signed, IntKind.bits]
  omega
/-- Block b is the set of these slots. -/
def SlotSet (w : World) (b : Nat) (ks : List Int) : Prop := w.ownsMap Tryd.prog 34 (unitElem (H := Unit)) b ks.length (setOf (.agg []) (ks.map (Lit.int .u64)))
section
variable {w w' : World} {b : Nat} {ks : List Int}
theorem SlotSet.made (w : World) : SlotSet (w.alloc (.map #[] 0)) w.heap.size [] := World.ownsMap_made _ _ _ _
theorem SlotSet.lt (h : SlotSet w b ks) : b < w.heap.size := World.ownsMap.lt h
theorem SlotSet.kept {row : Option Nat} (h : SlotSet w b ks) (hg : w.grownBy w' row) (hne : some b ≠ row) : SlotSet w' b ks := World.ownsMap.kept h hg hne
theorem SlotSet.alloc (h : SlotSet w b ks) (o : Obj) : SlotSet (w.alloc o) b ks := World.ownsMap.alloc h o
theorem SlotSet.drew (h : SlotSet w b ks) : SlotSet w.drew b ks := h
theorem SlotSet.same (h : SlotSet w b ks) (e : w'.heap[b]? = w.heap[b]?) : SlotSet w' b ks := by
  obtain ⟨es, clock, hb, r⟩ := h
  exact ⟨es, clock, e.trans hb, r⟩
theorem SlotSet.call (h : SlotSet w b ks) (hb : Below w.heap.size w w') : SlotSet w' b ks := h.same (hb.block b h.lt)
theorem SlotSet.set_ (h : SlotSet w b ks) {a : Addr} (ha : b ≠ a.block) (u : Value) : SlotSet (w.setCell a u) b ks := World.ownsMap.setCell h ha u
theorem keyInts (ks : List Int) : ∀ x ∈ ks.map (Lit.int .u64), WideAt.IsKeyLit x := fun x hx => by
  obtain ⟨s, -, rfl⟩ := List.mem_map.1 hx
  trivial
theorem slotset_has (ks : List Int) (k : Int) : Maps.has (setOf (H := Unit) (.agg []) (ks.map (Lit.int .u64))) (.int .u64 k) = decide (k ∈ ks) := by
  rw [has_setOf _ _ _ (keyInts ks), List.any_map]
  induction ks with
  | nil => rfl
  | cons x r ih =>
    rw [List.any_cons, ih]
    by_cases h : x = k
    · subst h
      have : (Lit.int .u64 x).sameKey (Lit.int .u64 x) = true := WideAt.sameKey_self (by trivial)
      simp [this]
    · have : (Lit.int .u64 x).sameKey (Lit.int .u64 k) = false := sameKey_ne (fun e => h (by injection e))
      have h2 : k ≠ x := fun e => h e.symm
      simp [this, h2]
/-- 'v, ok := m[k]' at the operation. -/
theorem wpl_slot_look {ops : Array Oper} {rest : List Oper} {o : Oper} {a : Act} {Q : Exit → Act → World → Prop} (hg : o.guard = none) (m x : Operand) (t : TypeId) (hop : o.op = Op.lookup t m x true)
    (ht : Tryd.prog.underlying t = some (.map 34 81)) (hm : a.eval m = .map (some b)) (hown : SlotSet w b ks) (k : Int) (hk : Word k) (hx : a.eval x = .int .u64 k) (q : Bool) (hq : decide (k ∈ ks) = q)
    (hK : wpList Tryd.prog ops Q rest (a.put o.dst (.tuple #[.agg #[], .bool q])) w) : wpList Tryd.prog ops Q (o :: rest) a w := by
  refine wpList_lookup_own_unit w hg m x t hop 34 81 slotset_law ht (idset_zero w) b _ _ hm hown (.int .u64 k) _ hx (keyOf_int_mk Tryd.underlying34 (word_wf hk)) ?_
  rw [slotset_has, hq]
  exact hK
theorem SlotSet.put (h : SlotSet w b ks) (k : Int) (hk : Word k) (hn : ks.length ≤ 1000000000) (t : TypeId) (ht : Tryd.prog.underlying t = some (.map 34 81)) :
    ∃ w', (Instr.mapUpdate t (.map (some b)) (.int .u64 k) (.agg #[])).run Tryd.prog w = .ok () w' ∧ SlotSet w' b (ks ++ [k]) ∧ w.grownBy w' (some b) := by
  obtain ⟨w', hr, hown, hturn⟩ := World.ownsMap.store h slotset_law ht (by unfold maxLen; omega) (keyOf_int_mk Tryd.underlying34 (word_wf hk)) unitElem_mk
  refine ⟨w', hr, ?_, hturn.grown⟩
  unfold SlotSet
  rw [List.map_append, List.map_cons, List.map_nil, setOf_snoc, List.length_append]
  exact hown
/-- 'm[k] = struct{}{}' at the operation. -/
theorem wpl_slot_put {ops : Array Oper} {rest : List Oper} {o : Oper} {a : Act} {Q : Exit → Act → World → Prop} (hg : o.guard = none) (m x v : Operand) (t : TypeId) (hop : o.op = Op.mapUpdate t m x v)
    (ht : Tryd.prog.underlying t = some (.map 34 81)) (hm : a.eval m = .map (some b)) (hown : SlotSet w b ks) (k : Int) (hk : Word k) (hx : a.eval x = .int .u64 k) (hv : a.eval v = .agg #[]) (hn : ks.length ≤ 1000000000)
    (hK : ∀ w', SlotSet w' b (ks ++ [k]) → w.grownBy w' (some b) → wpList Tryd.prog ops Q rest (a.put o.dst undef) w') : wpList Tryd.prog ops Q (o :: rest) a w := by
  refine wpList_plain hg fun K' hK' => ?_
  obtain ⟨w', hrun, r1, r2⟩ := hown.put k hk hn t ht
  unfold Oper.wp
  simp [execOp, hop, hm, hx, hv, hrun, Result.andThen]
  exact hK' _ _ (hK w' r1 r2)
end

/-- How an account reads. -/
def acD (x : Ac) : DataW Unit := .agg [.lit (.string x.id.data.toList), .lit (.int .u64 x.h), .lit (.int .u64 x.l), .lit (.string x.salt.data.toList), .lit (.int .u64 x.slot)]
def acElem : Value → Option (DataW Unit × List MemPlace)
  | .agg cs => match cs.toList with
    | [.string i, .int .u64 h, .int .u64 l, .string s, .int .u64 n] => some (acD ⟨i, h, l, s, n⟩, [])
    | _ => none
  | _ => none
theorem acElem_mk (x : Ac) : acElem x.val = some (acD x, []) := rfl
theorem acElem_inv {v : Value} {x : Ac} {ps : List MemPlace} (h : acElem v = some (acD x, ps)) : v = x.val := by
  unfold acElem at h
  split at h
  · rename_i cs
    split at h
    · rename_i i hh l s n heq
      have h := congrArg Prod.fst (Option.some.inj h)
      simp only [acD, DataW.agg.injEq, List.cons.injEq, DataW.lit.injEq, Lit.string.injEq, Lit.int.injEq, and_true, true_and] at h
      obtain ⟨e1, e2, e3, e4, e5⟩ := h
      have a1 := ba_ext e1
      have a4 := ba_ext e4
      subst a1 a4 e2 e3 e5
      have : cs = #[.string x.id, .int .u64 x.h, .int .u64 x.l, .string x.salt, .int .u64 x.slot] := Array.ext' heq
      rw [this]
      rfl
    · cases h
  · cases h
/-- The accounts by their Ids. -/
def accD (l : List Ac) : DataW Unit := l.foldl (fun D a => D.put (.string (keyA a)) (acD a)) (.map [])
theorem accD_snoc (l : List Ac) (a : Ac) : accD (l ++ [a]) = (accD l).put (.string (keyA a)) (acD a) := by simp [accD, List.foldl_append]
theorem firstA_snoc (p : Ac → Bool) (l : List Ac) (a : Ac) : firstA p (l ++ [a]) = if (firstA p l).2 then firstA p l else if p a then (a, true) else (Ac.zero, false) := by
  induction l with
  | nil => simp [firstA]
  | cons x r ih =>
    rw [List.cons_append]
    unfold firstA
    by_cases h : p x = true
    · simp [h]
    · simp only [h, if_false, Bool.false_eq_true]
      exact ih
theorem snoc_ind {α : Type} {p : List α → Prop} (h0 : p []) (h1 : ∀ l a, p l → p (l ++ [a])) (l : List α) : p l := by
  have key : ∀ l : List α, p l.reverse := by
    intro l
    induction l with
    | nil => exact h0
    | cons a r ih => rw [List.reverse_cons]; exact h1 _ _ ih
  have := key l.reverse
  rwa [List.reverse_reverse] at this
theorem accD_map (l : List Ac) : IsMap (accD l) := by
  refine snoc_ind (p := fun l => IsMap (accD l)) ?_ ?_ l
  · exact isMap_empty
  · intro l a ih; rw [accD_snoc]; exact ih.put _ _
theorem accD_find {l : List Ac} (hd : (l.map keyA).Nodup) (k : List UInt8) : Maps.has (accD l) (.string k) = (findA l k).2 ∧ (accD l).atKey (.string k) (acD Ac.zero) = acD (findA l k).1 := by
  revert hd
  refine snoc_ind (p := fun l => (l.map keyA).Nodup → Maps.has (accD l) (.string k) = (findA l k).2 ∧ (accD l).atKey (.string k) (acD Ac.zero) = acD (findA l k).1) ?_ ?_ l
  · intro _; exact ⟨rfl, rfl⟩
  · intro l a ih hd
    rw [List.map_append, List.nodup_append] at hd
    obtain ⟨h1, h2⟩ := ih hd.1
    unfold findA at h1 h2 ⊢
    rw [accD_snoc, firstA_snoc]
    by_cases e : keyA a = k
    · subst e
      have hn : (firstA (fun a_1 => decide (keyA a_1 = keyA a)) l).2 = false := by
        rw [firstA_has, List.any_eq_false]
        intro x hx he
        have he : keyA x = keyA a := by simpa using he
        exact hd.2.2 (keyA x) (List.mem_map_of_mem hx) (keyA a) (by simp) he
      rw [hn, has_put_same (accD_map l) (by trivial), atKey_put_same (accD_map l) (by trivial)]
      simp
    · have hne : Lit.string k ≠ Lit.string (keyA a) := fun he => e (by injection he with he; exact he.symm)
      rw [has_put_other hne, atKey_put_other hne, h1, h2]
      cases hb : (firstA (fun a => decide (keyA a = k)) l).2 with
      | true => simp [hb]
      | false =>
        rw [firstA_no hb]
        simp [e]
/-- Block b is the map of these accounts. -/
def AccMap (w : World) (b : Nat) (l : List Ac) : Prop := w.ownsMap Tryd.prog 9 acElem b l.length (accD l)
section
variable {w w' : World} {b : Nat} {l : List Ac}
theorem und_accs : Tryd.prog.underlying 70 = some (.map 9 38) := Tryd.underlying70
theorem AccMap.made (w : World) : AccMap (w.alloc (.map #[] 0)) w.heap.size [] := World.ownsMap_made _ _ _ _
theorem AccMap.lt (h : AccMap w b l) : b < w.heap.size := World.ownsMap.lt h
theorem AccMap.kept {row : Option Nat} (h : AccMap w b l) (hg : w.grownBy w' row) (hne : some b ≠ row) : AccMap w' b l := World.ownsMap.kept h hg hne
theorem AccMap.alloc (h : AccMap w b l) (o : Obj) : AccMap (w.alloc o) b l := World.ownsMap.alloc h o
theorem AccMap.same (h : AccMap w b l) (e : w'.heap[b]? = w.heap[b]?) : AccMap w' b l := by
  obtain ⟨es, clock, hb, r⟩ := h
  exact ⟨es, clock, e.trans hb, r⟩
theorem AccMap.call (h : AccMap w b l) (hb : Below w.heap.size w w') : AccMap w' b l := h.same (hb.block b h.lt)
theorem acc_zero (w : World) : (zeroValue 38).run Tryd.prog w = .ok Ac.zero.val w := by kernel_rfl
/-- 'v, ok := m[k]' at the operation. -/
theorem wpl_acc_look {ops : Array Oper} {rest : List Oper} {o : Oper} {a : Act} {Q : Exit → Act → World → Prop} (hg : o.guard = none) (m x : Operand) (t : TypeId) (hop : o.op = Op.lookup t m x true)
    (ht : Tryd.prog.underlying t = some (.map 9 38)) (hm : a.eval m = .map (some b)) (hown : AccMap w b l) (hd : (l.map keyA).Nodup) (s : ByteArray) (hx : a.eval x = .string s) (hs : s.size ≤ 1000000000) (r : Ac) (q : Bool) (hq : findA l s.data.toList = (r, q))
    (hK : wpList Tryd.prog ops Q rest (a.put o.dst (.tuple #[.agg #[.string r.id, .int .u64 r.h, .int .u64 r.l, .string r.salt, .int .u64 r.slot], .bool q])) w) : wpList Tryd.prog ops Q (o :: rest) a w := by
  refine wpList_plain hg fun K' hK' => ?_
  obtain ⟨v, ps, hrun, hv⟩ := World.ownsMap.look_ok hown idset_law ht (acc_zero w) (acElem_mk Ac.zero) (WideMaps.keyOf_string_mk Tryd.underlying9 (s := s) (by unfold maxLen; omega))
  obtain ⟨e1, e2⟩ := accD_find hd s.data.toList
  rw [hq] at e1 e2
  rw [e1] at hrun
  rw [e2] at hv
  rw [acElem_inv hv] at hrun
  unfold Oper.wp
  simp [execOp, hop, hm, hx, hrun, Result.andThen]
  exact hK' _ _ hK
theorem AccMap.put (h : AccMap w b l) (x : Ac) (hz : x.id.size ≤ 1000000000) (hn : l.length ≤ 1000000000) (t : TypeId) (ht : Tryd.prog.underlying t = some (.map 9 38)) :
    ∃ w', (Instr.mapUpdate t (.map (some b)) (.string x.id) x.val).run Tryd.prog w = .ok () w' ∧ AccMap w' b (l ++ [x]) ∧ w.grownBy w' (some b) := by
  obtain ⟨w', hr, hown, hturn⟩ := World.ownsMap.store h idset_law ht (by unfold maxLen; omega) (WideMaps.keyOf_string_mk Tryd.underlying9 (s := x.id) (by unfold maxLen; omega)) (acElem_mk x)
  refine ⟨w', hr, ?_, hturn.grown⟩
  unfold AccMap
  rw [accD_snoc, List.length_append]
  exact hown
/-- 'm[k] = v' at the operation. -/
theorem wpl_acc_put {ops : Array Oper} {rest : List Oper} {o : Oper} {a : Act} {Q : Exit → Act → World → Prop} (hg : o.guard = none) (m x v : Operand) (t : TypeId) (hop : o.op = Op.mapUpdate t m x v)
    (ht : Tryd.prog.underlying t = some (.map 9 38)) (hm : a.eval m = .map (some b)) (hown : AccMap w b l) (r : Ac) (hz : r.id.size ≤ 1000000000) (hx : a.eval x = .string r.id) (hv : a.eval v = r.val) (hn : l.length ≤ 1000000000)
    (hK : ∀ w', AccMap w' b (l ++ [r]) → w.grownBy w' (some b) → wpList Tryd.prog ops Q rest (a.put o.dst undef) w') : wpList Tryd.prog ops Q (o :: rest) a w := by
  refine wpList_plain hg fun K' hK' => ?_
  obtain ⟨w', hrun, r1, r2⟩ := hown.put r hz hn t ht
  unfold Oper.wp
  simp [execOp, hop, hm, hx, hv, hrun, Result.andThen]
  exact hK' _ _ (hK w' r1 r2)
end
end Go.Proofs.YtngofpdpangajaaDoor
/-
  Package slots' sets of slots, walked: mayHeight, size, take, has, takenBy, free; Free.
-/
namespace Go.Proofs.YtngofpdpangajaaDoor
set_option linter.unusedVariables false
set_option linter.unusedSimpArgs false
set_option maxRecDepth 10000
open Go.RowKit Go.Sort

/-- May a height be? -/
def shOk (h : Int) : Bool := decide (0 ≤ h ∧ h ≤ 10)
theorem smayHeight_any (h : Int) (w : World) : Calls Tryd.prog 51 #[.int .i64 h] w (Plain (.bool (shOk h)) w) := by
  unfold shOk
  by_cases h0 : 0 ≤ h
  · by_cases h1 : h ≤ 10
    · rw [decide_eq_true ⟨h0, h1⟩]
      have h2 : ¬ (10 < h) := by omega
      go_enter Tryd.func51, Tryd.ntmps51
      go_wp2
      go_ret
      exact ⟨rfl, rfl⟩
    · rw [decide_eq_false (fun k => h1 k.2)]
      have h2 : 10 < h := by omega
      go_enter Tryd.func51, Tryd.ntmps51
      go_wp2
      go_ret
      exact ⟨rfl, rfl⟩
  · rw [decide_eq_false (fun k => h0 k.1)]
    have h2 : h < 0 := by omega
    go_enter Tryd.func51, Tryd.ntmps51
    go_wp2
    go_ret
    exact ⟨rfl, rfl⟩
/-- How many slots there are. -/
def pw (h : Nat) : Int := 2 ^ h
theorem pw_bd (h : Nat) (hh : h ≤ 10) : 1 ≤ pw h ∧ pw h ≤ 1024 := by
  have : ∀ k : Fin 11, 1 ≤ pw k.val ∧ pw k.val ≤ 1024 := by decide +kernel
  exact this ⟨h, by omega⟩
theorem pw_nat (h : Nat) : pw h = ((2 ^ h : Nat) : Int) := by unfold pw; simp
theorem ssize_any (h : Nat) (hh : h ≤ 10) (w : World) : Calls Tryd.prog 38 #[.int .i64 h] w (Plain (.int .u64 (pw h)) w) := by
  have hm : ¬ ((h : Int) < 0) := by omega
  have hm2 : ¬ ((63 : Int) < (h : Int)) := by omega
  have hb := pw_bd h hh
  have hw : IntKind.u64.wrap ((2 : Int) ^ h) = pw h := by
    show IntKind.u64.wrap (pw h) = pw h
    rw [IntKind.wrap_u64]
    omega
  generalize pw h = A at *
  go_enter Tryd.func38, Tryd.ntmps38
  go_wp2
  go_ret
  exact ⟨rfl, rfl⟩
theorem stake_any (b : Nat) (ks : List Int) (k : Int) (hk : Word k) (hn : ks.length ≤ 1000000000) (w : World) (hS : SlotSet w b ks) :
    Calls Tryd.prog 55 #[.map (some b), .int .u64 k] w fun e w' => e = .returned (.tuple #[]) ∧ SlotSet w' b (ks ++ [k]) ∧ w.grownBy w' (some b) := by
  go_enter Tryd.func55, Tryd.ntmps55
  go_wp2_with (first
    | (at_mapUpdate; refine wpl_slot_put rfl _ _ _ 77 rfl und_taken rfl hS k hk rfl rfl hn ?_; intro w2 M2 hg2)
    | fail)
  exact bodyPost_end (v := .tuple #[]) (results_none Tryd.results55 _ _ _) rfl ⟨rfl, M2, hg2⟩
theorem shas_any (b : Nat) (ks : List Int) (k : Int) (hk : Word k) (q : Bool) (hq : decide (k ∈ ks) = q) (w : World) (hS : SlotSet w b ks) :
    Calls Tryd.prog 54 #[.map (some b), .int .u64 k] w (Tells (.bool q) w.heap.size w) := by
  go_enter Tryd.func54, Tryd.ntmps54
  go_wp2_with (first
    | (at_lookup; refine wpl_slot_look rfl _ _ 77 rfl und_taken rfl hS k hk rfl q hq ?_)
    | fail)
  go_ret
  exact ⟨rfl, by repeat (first | exact Below.refl _ _ | apply Below.drew | apply below_drewN | refine Below.alloc ?_ (by simp; try omega) _ | refine Below.setCell ?_ (by simp; try omega) _)⟩

set_option maxRecDepth 100000 in
set_option maxHeartbeats 2000000 in
theorem takenBy_any (A : Option Addr) (c : Nat) (xs : List Ac) (hm : xs.length ≤ 1000000) (ho : AllAc xs) (w : World) (hR : AcRow w w.heap.size A xs) :
    Calls Tryd.prog 52 #[.slice A xs.length c] w fun e w' => ∃ b, e = .returned (.map (some b)) ∧ w.heap.size ≤ b ∧ SlotSet w' b (xs.map Ac.slot) ∧ Below w.heap.size w w' := by
  have hmm := @run_makeMap Tryd.prog
  have M0 := SlotSet.made w
  have L0 := chainA (Below.refl w.heap.size w) (.map #[] 0)
  have cT := fun ks k hk hn u hu => stake_any w.heap.size ks k hk hn u hu
  go_enter Tryd.func52, Tryd.ntmps52
  go_wp2
  generalize w.alloc (.map #[] 0) = W at *
  go_loopg [9] xs.length (fun gk i wr => ∃ k : Nat, k ≤ xs.length ∧ xs.length - k ≤ gk ∧ i = .int .i64 k ∧ SlotSet wr w.heap.size ((xs.take k).map Ac.slot) ∧ Below w.heap.size w wr)
  case atStart => exact ⟨0, Nat.zero_le _, by omega, rfl, M0, L0⟩
  case round =>
    obtain ⟨k, hk, hgk, rfl, M, hb⟩ := hrel
    have HG := hideIt hgk
    clear hgk
    by_cases hlt : k < xs.length
    · obtain ⟨x, hx⟩ : ∃ x, xs[k]? = some x := ⟨_, List.getElem?_eq_getElem hlt⟩
      obtain ⟨ad, rfl, had, p0, p1, p2, p3, p4⟩ := (hR.call hb) k x hx
      have hlti : (k : Int) < (xs.length : Int) := by omega
      have p5 : (ad.add (k * 5)).block < wr.heap.size := by rw [o10_block]; exact Nat.lt_of_lt_of_le had hb.size
      have hok := (ho x (List.mem_of_getElem? hx)).2.2
      have ht := take_more1 hx
      have HT := hideIt ht
      clear hx ht
      have M1 := M.alloc (.cells #[.string x.id, .int .u64 x.h, .int .u64 x.l, .string x.salt, .int .u64 x.slot] 38)
      have B1 := Box.made wr 38 #[.string x.id, .int .u64 x.h, .int .u64 x.l, .string x.salt, .int .u64 x.slot]
      have L1 := chainA hb (.cells #[.string x.id, .int .u64 x.h, .int .u64 x.l, .string x.salt, .int .u64 x.slot] 38)
      go_upto_region 5 with fail
      generalize wr.alloc (.cells #[.string x.id, .int .u64 x.h, .int .u64 x.l, .string x.salt, .int .u64 x.slot] 38) = W1 at *
      have q4 : W1.cell? ⟨wr.heap.size, 4, none⟩ = some (.int .u64 x.slot) := B1.read 4
      have hin1 := B1.inside
      have hlen : ((xs.take k).map Ac.slot).length ≤ 1000000000 := by rw [List.length_map, List.length_take]; omega
      go_wp2_with (first
        | (go_at_call 55; refine (cT _ _ hok hlen _ M1).mono ?_; rintro e w2 ⟨rfl, M2, hg2⟩)
        | fail)
      go_roundg (xs.length - (k + 1))
      case measure => have := HG.out; omega
      case rel => exact ⟨k + 1, by omega, Nat.le_refl _, by go_num, by rw [HT.out, List.map_append]; exact M2, L1.grown hg2 (Nat.le_of_lt (Nat.lt_of_le_of_lt hb.size hin1)) (fun j hj => by injection hj with hj; omega)⟩
    · have e : k = xs.length := by omega
      subst e
      rw [List.take_length] at M
      go_wp2
      go_ret
      exact ⟨_, rfl, Nat.le_refl _, M, hb⟩

set_option maxRecDepth 100000 in
set_option maxHeartbeats 2000000 in
theorem sfree_any (b : Nat) (ks : List Int) (h : Nat) (hh : h ≤ 10) (f : Int) (hf : Word f) (w : World) (hS : SlotSet w b ks) :
    Calls Tryd.prog 53 #[.map (some b), .int .i64 h, .int .u64 f] w (Tells (.tuple #[.int .u64 (freeF (pw h) ks f).1, .bool (freeF (pw h) ks f).2]) w.heap.size w) := by
  have cS := fun u => ssize_any h hh u
  have cH := fun k hk q hq u hu => shas_any b ks k hk q hq u hu
  have hA := pw_bd h hh
  have hit := fun (s : Nat) (x : ∀ j, j < s → sq (pw h) f j ∈ ks) (y : (s : Int) < pw h) (z : sq (pw h) f s ∉ ks) => freeF_hit x y z
  have hno := fun (x : ∀ j : Nat, (j : Int) < pw h → sq (pw h) f j ∈ ks) => freeF_none x
  have hsb := fun s => sq_bd (A := pw h) (by omega) f s
  have hsd : ∀ s : Nat, sq (pw h) f s = (f % pw h + s) % pw h := fun s => rfl
  generalize freeF (pw h) ks f = V at *
  generalize sq (pw h) f = S at *
  obtain ⟨F, hF⟩ : ∃ F : Int, f % pw h = F := ⟨_, rfl⟩
  rw [hF] at hsd
  have hFb : 0 ≤ F ∧ F < pw h := by rw [← hF]; exact ⟨Int.emod_nonneg _ (by omega), Int.emod_lt_of_pos _ (by omega)⟩
  have hr : f.tmod (pw h) = F := by rw [← hF]; exact Int.tmod_eq_emod_of_nonneg hf.1
  generalize pw h = A at *
  have hA0 : ¬ A = 0 := by omega
  have hwF : IntKind.u64.wrap F = F := by rw [IntKind.wrap_u64]; omega
  have HF := hideIt hF
  have HH := hideIt hit
  have HN := hideIt hno
  have HSD := hideIt hsd
  clear hF hit hno hsd
  go_enter Tryd.func53, Tryd.ntmps53
  go_wp2_with (first
    | (go_at_call 38; refine (cS _).mono ?_; rintro e w1 ⟨rfl, rfl⟩)
    | fail)
  go_loopg [9, 10, 14] A.toNat (fun gk _ _ i wr => ∃ s : Nat, (s : Int) ≤ A ∧ A.toNat - s ≤ gk ∧ i = .int .u64 s ∧ (∀ j, j < s → S j ∈ ks) ∧ Below w.heap.size w wr)
  case atStart => exact ⟨0, by omega, by omega, rfl, fun j hj => absurd hj (Nat.not_lt_zero _), Below.refl _ _⟩
  case round =>
    obtain ⟨s, hs, hgk, rfl, hb, hbl⟩ := hrel
    have HG := hideIt hgk
    have HB := hideIt hb
    clear hgk hb
    by_cases hlt : (s : Int) < A
    · obtain ⟨G, hG⟩ : ∃ G : Int, F + s = G := ⟨_, rfl⟩
      have w1 : IntKind.u64.wrap (F + s) = G := by rw [IntKind.wrap_u64]; omega
      have w2 : G.tmod A = S s := by rw [HSD.out, hG]; exact Int.tmod_eq_emod_of_nonneg (by omega)
      obtain ⟨n, hn⟩ : ∃ n, S s = n := ⟨_, rfl⟩
      have hnb := hsb s
      rw [hn] at w2 hnb
      have w3 : IntKind.u64.wrap n = n := by rw [IntKind.wrap_u64]; omega
      have w4 : IntKind.u64.wrap ((s : Int) + 1) = ((s + 1 : Nat) : Int) := by rw [IntKind.wrap_u64]; omega
      have hwn : Word n := ⟨by omega, by omega⟩
      have HGG := hideIt hG
      have HNN := hideIt hn
      clear hG hn
      by_cases hm : n ∈ ks
      · have cH1 := fun u hu => cH n hwn true (decide_eq_true hm) u hu
        go_wp2_with (first
          | (go_at_call 54; refine (cH1 _ (hS.call hbl)).mono ?_; rintro e v2 ⟨rfl, j2⟩)
          | fail)
        go_roundg (A.toNat - (s + 1))
        case measure => have := HG.out; omega
        case rel => exact ⟨s + 1, by omega, Nat.le_refl _, rfl, fun j hj => by
            by_cases e : j = s
            · subst e; rw [HNN.out]; exact hm
            · exact HB.out j (by omega), chain hbl j2⟩
      · have cH1 := fun u hu => cH n hwn false (decide_eq_false hm) u hu
        have hv := HH.out s HB.out hlt (by rw [HNN.out]; exact hm)
        rw [HNN.out] at hv
        have HV := hideIt hv
        clear hv
        go_wp2_with (first
          | (go_at_call 54; refine (cH1 _ (hS.call hbl)).mono ?_; rintro e v2 ⟨rfl, j2⟩)
          | fail)
        refine bodyPost_ret (results_tmp2 rfl _ _ _) rfl ?_
        rw [HV.out]
        exact ⟨rfl, chain hbl j2⟩
    · have hv := HN.out (fun j hj => HB.out j (by omega))
      have HV := hideIt hv
      clear hv
      go_wp2
      refine bodyPost_ret (results_tmp2 rfl _ _ _) rfl ?_
      rw [HV.out]
      exact ⟨rfl, hbl⟩
/-- The first free slot of accounts. -/
def freeA (h : Int) (xs : List Ac) (f : Int) : Int × Bool := if shOk h = true then freeF (pw h.toNat) (xs.map Ac.slot) f else (0, false)
set_option maxHeartbeats 1000000 in
theorem sFree_any (A : Option Addr) (c : Nat) (xs : List Ac) (hm : xs.length ≤ 1000000) (ho : AllAc xs) (h f : Int) (hf : Word f) (w : World) (hR : AcRow w w.heap.size A xs) :
    Calls Tryd.prog 20 #[.slice A xs.length c, .int .i64 h, .int .u64 f] w (Tells (.tuple #[.int .u64 (freeA h xs f).1, .bool (freeA h xs f).2]) w.heap.size w) := by
  have cM := fun u => smayHeight_any h u
  unfold freeA
  cases hk : shOk h with
  | false =>
    rw [hk] at cM
    rw [if_neg Bool.noConfusion]
    go_enter Tryd.func20, Tryd.ntmps20
    go_wp2_with (first | (go_at_call 51; refine (cM _).mono ?_; rintro e v1 ⟨rfl, rfl⟩) | fail)
    refine bodyPost_ret (results_tmp2 rfl _ _ _) rfl ?_
    exact ⟨rfl, Below.refl _ _⟩
  | true =>
    rw [hk] at cM
    rw [if_pos rfl]
    have hb := of_decide_eq_true hk
    obtain ⟨n, rfl⟩ := Int.eq_ofNat_of_zero_le hb.1
    rw [Int.toNat_natCast]
    have cT := fun u hu => takenBy_any A c xs hm ho u hu
    have cF := fun b u hu => sfree_any b (xs.map Ac.slot) n (by omega) f hf u hu
    generalize freeF (pw n) (xs.map Ac.slot) f = V at *
    generalize xs.length = N at *
    go_enter Tryd.func20, Tryd.ntmps20
    go_wp2_with (first
      | (go_at_call 51; refine (cM _).mono ?_; rintro e v1 ⟨rfl, rfl⟩)
      | (go_at_call 52; refine (cT _ hR).mono ?_; rintro e v2 ⟨b, rfl, hb2, M2, j2⟩)
      | (go_at_call 53; refine (cF _ _ M2).mono ?_; rintro e v3 ⟨rfl, j3⟩)
      | fail)
    refine bodyPost_ret (results_tmp2 rfl _ _ _) rfl ?_
    exact ⟨rfl, chain j2 j3⟩
end Go.Proofs.YtngofpdpangajaaDoor
