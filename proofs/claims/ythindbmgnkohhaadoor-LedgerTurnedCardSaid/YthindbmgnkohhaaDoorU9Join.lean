/-
  Package lines' Join, walked: strings.Builder by the library's own contract.
-/
import Derived.Test.YthindbmgnkohhaaDoorM9Lin
import Derived.Test.YthindbmgnkohhaaDoorW9Str
import Derived.Shelf.Strings.Builder1
namespace Go.Proofs.YthindbmgnkohhaaDoor
set_option linter.unusedVariables false
set_option linter.unusedSimpArgs false
set_option maxRecDepth 10000
open Go.RowKit Go.Lib Go.Shelf

def bldRen : Go.Shelf.Ren := ⟨fun | 166 => 34 | 169 => 35 | 240 => 55 | 276 => 78 | n => n,
  fun | 0 => 0 | 3 => 3 | 4 => 4 | 5 => 5 | 9 => 9 | 20 => 20 | 37 => 22 | 70 => 69 | 72 => 71 | 75 => 74 | 80 => 77 | 127 => 104 | 164 => 126 | n => n, fun n => n⟩
set_option maxRecDepth 100000 in
theorem laysWrite : Lays.n166 Tryd.prog bldRen := {
  mixed := by kernel_rfl
  f166 := by kernel_rfl
  f240 := by kernel_rfl
  f276 := by kernel_rfl
  t0 := by kernel_rfl
  a0 := fun _ => by kernel_rfl
  z0 := fun _ => by kernel_rfl
  v0 := fun _ => by kernel_rfl
  t3 := by kernel_rfl
  a3 := fun _ => by kernel_rfl
  z3 := fun _ => by kernel_rfl
  v3 := fun _ => by kernel_rfl
  t4 := by kernel_rfl
  a4 := fun _ => by kernel_rfl
  z4 := fun _ => by kernel_rfl
  v4 := fun _ => by kernel_rfl
  t9 := by kernel_rfl
  a9 := fun _ => by kernel_rfl
  z9 := fun _ => by kernel_rfl
  v9 := fun _ => by kernel_rfl
  t20 := by kernel_rfl
  a20 := fun _ => by kernel_rfl
  z20 := fun _ => by kernel_rfl
  v20 := fun _ => by kernel_rfl
  t37 := by kernel_rfl
  a37 := fun _ => by kernel_rfl
  z37 := fun _ => by kernel_rfl
  v37 := fun _ => by kernel_rfl
  t70 := by kernel_rfl
  a70 := fun _ => by kernel_rfl
  z70 := fun _ => by kernel_rfl
  v70 := fun _ => by kernel_rfl
  t72 := by kernel_rfl
  a72 := fun _ => by kernel_rfl
  z72 := fun _ => by kernel_rfl
  v72 := fun _ => by kernel_rfl
  t75 := by kernel_rfl
  a75 := fun _ => by kernel_rfl
  z75 := fun _ => by kernel_rfl
  v75 := fun _ => by kernel_rfl
  t164 := by kernel_rfl
  a164 := fun _ => by kernel_rfl
  z164 := fun _ => by kernel_rfl
  v164 := fun _ => by kernel_rfl
  }
set_option maxRecDepth 100000 in
theorem laysString : Lays.n169 Tryd.prog bldRen := {
  mixed := by kernel_rfl
  f169 := by kernel_rfl
  t0 := by kernel_rfl
  a0 := fun _ => by kernel_rfl
  z0 := fun _ => by kernel_rfl
  v0 := fun _ => by kernel_rfl
  t3 := by kernel_rfl
  a3 := fun _ => by kernel_rfl
  z3 := fun _ => by kernel_rfl
  v3 := fun _ => by kernel_rfl
  t9 := by kernel_rfl
  a9 := fun _ => by kernel_rfl
  z9 := fun _ => by kernel_rfl
  v9 := fun _ => by kernel_rfl
  t37 := by kernel_rfl
  a37 := fun _ => by kernel_rfl
  z37 := fun _ => by kernel_rfl
  v37 := fun _ => by kernel_rfl
  t70 := by kernel_rfl
  a70 := fun _ => by kernel_rfl
  z70 := fun _ => by kernel_rfl
  v70 := fun _ => by kernel_rfl
  t72 := by kernel_rfl
  a72 := fun _ => by kernel_rfl
  z72 := fun _ => by kernel_rfl
  v72 := fun _ => by kernel_rfl
  t127 := by kernel_rfl
  a127 := fun _ => by kernel_rfl
  z127 := fun _ => by kernel_rfl
  v127 := fun _ => by kernel_rfl
  }
theorem bldExtra : Builder.Extra Tryd.prog bldRen := {
  sizeBuilder := by kernel_rfl
  liesBuilder := by kernel_rfl
  t5 := by kernel_rfl
  a5 := fun _ => by kernel_rfl
  z5 := fun _ => by kernel_rfl
  v5 := fun _ => by kernel_rfl
  infoByte := by kernel_rfl
  cellsByte := by kernel_rfl
  sizeByte := by kernel_rfl
  neB5 := by decide }
/-- A builder of the call's own that holds these bytes. -/
def BldAt (B g : Nat) (l : List UInt8) (w : World) : Prop := Lib.IsBuilder 71 5 B g (Lib.byteCells l) w
theorem strCells_bytes (s : ByteArray) : Lib.strCells s = Lib.byteCells s.data.toList := rfl
theorem bld_write (B g : Nat) (l : List UInt8) (s : ByteArray) (w : World) (h : BldAt B g l w) (hlen : l.length + s.size ≤ 1000000000) (hB : B ≤ w.heap.size) :
    Calls Tryd.prog 34 #[.pointer (some ⟨g, 0, none⟩), .string s] w fun e w' => (∃ v, e = .returned v) ∧ BldAt B g (l ++ s.data.toList) w' ∧ Below B w w' :=
  (Any.Builder_WriteString laysWrite bldExtra B g (Lib.byteCells l) s w h (by rw [Lib.byteCells_length]; omega) hB).mono fun e w' ⟨h1, h2, h3⟩ =>
    ⟨⟨_, h1⟩, .inr (by
      have : Lib.byteCells (l ++ s.data.toList) = Lib.byteCells l ++ Lib.strCells s := by simp [Lib.byteCells, Lib.strCells]
      rw [this]; exact h2), h3⟩
theorem bld_string (B g : Nat) (l : List UInt8) (w : World) (h : BldAt B g l w) (hB : B ≤ w.heap.size) :
    Calls Tryd.prog 35 #[.pointer (some ⟨g, 0, none⟩)] w (Tells (.string (bA l)) B w) :=
  Any.Builder_String_any laysString bldExtra B g l w h hB
theorem bld_new (w : World) : BldAt w.heap.size w.heap.size [] (w.alloc (.cells #[.pointer none, .slice none 0 0] 71)) :=
  .inl ⟨Nat.le_refl _, .slice none 0 0, Box.made w _ _, World.ownsRow_nil _ _ _ _, by simp [Value.ownBlock]⟩
/-- Lines joined. -/
def joinB (ss : List ByteArray) : List UInt8 := joinL (ss.map fun s => s.data.toList)
def any10 (ss : List ByteArray) : Bool := ss.any fun s => has10 s.data.toList
theorem joinL_snoc (l : List (List UInt8)) (x : List UInt8) (h : l ≠ []) : joinL (l ++ [x]) = joinL l ++ 10 :: x := by
  induction l with
  | nil => exact absurd rfl h
  | cons a r ih =>
    cases r with
    | nil => rfl
    | cons b r =>
      show a ++ 10 :: joinL (b :: (r ++ [x])) = (a ++ 10 :: joinL (b :: r)) ++ 10 :: x
      have := ih (by simp)
      rw [List.cons_append] at this
      rw [this]
      simp
theorem joinL_app_le (l m : List (List UInt8)) : (joinL l).length ≤ (joinL (l ++ m)).length := by
  induction l with
  | nil => simp [joinL]
  | cons a r ih =>
    cases r with
    | nil =>
      cases m with
      | nil => simp
      | cons b m => simp [joinL]
    | cons b r =>
      show (a ++ 10 :: joinL (b :: r)).length ≤ (a ++ 10 :: joinL (b :: (r ++ m))).length
      rw [List.cons_append] at ih
      simp only [List.length_append, List.length_cons]
      omega
theorem joinB_take (ss : List ByteArray) (k : Nat) : (joinB (ss.take k)).length ≤ (joinB ss).length := by
  have h := joinL_app_le ((ss.take k).map fun s => s.data.toList) ((ss.drop k).map fun s => s.data.toList)
  rw [← List.map_append, List.take_append_drop] at h
  exact h
theorem joinB_first (s : ByteArray) : joinB [s] = s.data.toList := rfl
theorem joinB_next (ss : List ByteArray) (s : ByteArray) (h : ss ≠ []) : joinB (ss ++ [s]) = joinB ss ++ [10] ++ s.data.toList := by
  unfold joinB
  rw [List.map_append, List.map_singleton, joinL_snoc _ _ (by simpa using h)]
  simp

set_option maxRecDepth 100000 in
set_option maxHeartbeats 2000000 in
theorem join_any (A : Option Addr) (c : Nat) (ss : List ByteArray) (hm : ss.length ≤ 9223372036854775807) (hl : (joinB ss).length ≤ 1000000) (w : World) (hr : StrRow w w.heap.size A ss) :
    Calls Tryd.prog 12 #[.slice A ss.length c] w (Tells (.tuple (if any10 ss then #[.string ⟨#[]⟩, .int .i64 2] else #[.string (bA (joinB ss)), .int .i64 0])) w.heap.size w) := by
  obtain ⟨R, hR⟩ : ∃ R, (if any10 ss then (#[.string ⟨#[]⟩, .int .i64 2] : Array Value) else #[.string (bA (joinB ss)), .int .i64 0]) = R := ⟨_, rfl⟩
  rw [hR]
  have HR := hideIt hR
  have HL := hideIt hl
  clear hR hl
  have B0 := bld_new w
  have L0 := (Below.refl w.heap.size w).alloc (Nat.le_refl _) (.cells #[.pointer none, .slice none 0 0] 71)
  go_enter Tryd.func12, Tryd.ntmps12
  go_upto_region 2 with fail
  generalize World.alloc w _ = W at *
  go_wp2
  go_loopg [5, 6, 9] ss.length (fun gk i l x wr => ∃ k : Nat, k ≤ ss.length ∧ gk = ss.length - k ∧ x = .int .i64 k ∧ BldAt w.heap.size w.heap.size (joinB (ss.take k)) wr ∧ Below w.heap.size w wr ∧ Hid (any10 (ss.take k) = false))
  case atStart => exact ⟨0, by omega, rfl, rfl, B0, L0, rfl⟩
  case round =>
    clear B0 L0
    obtain ⟨k, hk, hgk, rfl, hB, hb, h10⟩ := hrel
    have HG := hideIt hgk
    clear hgk
    by_cases hlt : k < ss.length
    · obtain ⟨s, hs⟩ : ∃ s, ss[k]? = some s := ⟨_, List.getElem?_eq_getElem hlt⟩
      have htk : ss.take (k + 1) = ss.take k ++ [s] := by
        rw [List.take_add_one, hs]; rfl
      have hle := joinB_take ss (k + 1)
      have hle2 := HL.out
      have hlti : (k : Int) < (ss.length : Int) := by omega
      obtain ⟨ad, rfl, hadl, hac⟩ := hr.call hb k s hs
      have hadw : (ad.add k).block < wr.heap.size := by rw [addr_block]; exact Nat.lt_of_lt_of_le hadl hb.size
      have cC := fun u => contains_any s u
      have hmem : s ∈ ss := List.mem_of_getElem? hs
      cases hc : has10 s.data.toList
      · rw [hc] at cC
        have h10' : any10 (ss.take (k + 1)) = false := by
          rw [htk]
          have := h10.out
          unfold any10 at this ⊢
          rw [List.any_append, this]
          simp [hc]
        have H10 := hideIt h10'
        clear h10' h10
        by_cases hk0 : k = 0
        · have e1 : joinB (ss.take (k + 1)) = s.data.toList := by rw [htk, hk0]; rfl
          have e0 : joinB (ss.take k) = [] := by rw [hk0]; rfl
          have hk0i : ¬ ((0 : Int) < (k : Int)) := by omega
          rw [e1] at hle
          rw [e0] at hB
          have cW := fun u hu => bld_write w.heap.size w.heap.size [] s u hu (by rw [ba_size] at hle; simp; omega)
          rw [List.nil_append] at cW
          have HE := hideIt e1
          clear e1 e0 hle hle2 htk hs hc hmem hk0
          go_wp2_with (first
            | (go_at_call 33; refine (cC _).mono ?_; rintro e w' ⟨rfl, rfl⟩)
            | (go_at_call 34; refine (cW _ hB hb.size).mono ?_; rintro e w2 ⟨⟨v, rfl⟩, hB2, b2⟩))
          go_roundg (ss.length - (k + 1))
          case measure => have := HG.out; omega
          case rel => exact ⟨k + 1, by omega, rfl, by go_num, by rw [HE.out]; exact hB2, hb.trans b2, H10⟩
        · have e1 : joinB (ss.take (k + 1)) = joinB (ss.take k) ++ [10] ++ s.data.toList := by
            rw [htk, joinB_next _ _ (by intro e; have := congrArg List.length e; simp only [List.length_take, List.length_nil] at this; omega)]
          rw [e1] at hle
          simp only [List.length_append, List.length_singleton, ba_size] at hle
          have cN := fun u hu => bld_write w.heap.size w.heap.size (joinB (ss.take k)) ⟨#[10]⟩ u hu (by show _ + 1 ≤ _; omega)
          have cW := fun u hu => bld_write w.heap.size w.heap.size (joinB (ss.take k) ++ [10]) s u hu (by rw [List.length_append]; simp only [List.length_singleton]; omega)
          have HE := hideIt e1
          have hk0i : (0 : Int) < (k : Int) := by omega
          clear e1 hle hle2 htk hs hc hmem
          generalize joinB (ss.take k) = q at *
          go_wp2_with (first
            | (go_at_call 33; refine (cC _).mono ?_; rintro e w' ⟨rfl, rfl⟩)
            | (go_at_call 34; refine (cN _ hB hb.size).mono ?_; rintro e w2 ⟨⟨v, rfl⟩, hB2, b2⟩; clear cN)
            | (go_at_call 34; refine (cW _ hB2 (hb.trans b2).size).mono ?_; rintro e w3 ⟨⟨v3, rfl⟩, hB3, b3⟩))
          go_roundg (ss.length - (k + 1))
          case measure => have := HG.out; omega
          case rel => exact ⟨k + 1, by omega, rfl, by go_num, by rw [HE.out]; exact hB3, (hb.trans b2).trans b3, H10⟩
      · rw [hc] at cC
        have e : R = #[.string ⟨#[]⟩, .int .i64 2] := by
          rw [← HR.out, if_pos]
          exact List.any_eq_true.2 ⟨s, hmem, hc⟩
        subst e
        clear htk hs hle hle2 hc hmem HR
        go_wp2_with (first
          | (go_at_call 33; refine (cC _).mono ?_; rintro e w' ⟨rfl, rfl⟩))
        go_ret2
        exact ⟨rfl, hb⟩
    · have e : k = ss.length := by omega
      subst e
      rw [List.take_length] at hB h10
      have e : R = #[.string (bA (joinB ss)), .int .i64 0] := by
        rw [← HR.out, if_neg]
        rw [h10.out]; simp
      subst e
      have cS := bld_string w.heap.size w.heap.size (joinB ss) wr hB hb.size
      generalize joinB ss = q at *
      clear HR
      go_wp2_with (first
        | (go_at_call 35; refine cS.mono ?_; rintro e w' ⟨rfl, b2⟩))
      go_ret2
      exact ⟨rfl, hb.trans b2⟩
end Go.Proofs.YthindbmgnkohhaaDoor
