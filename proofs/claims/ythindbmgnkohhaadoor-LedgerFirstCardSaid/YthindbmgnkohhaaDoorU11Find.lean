/-
  ledger.Find and paymasterref11.Find, walked: the first row of an Id, and whether there is one.
-/
import Derived.Test.YthindbmgnkohhaaDoorM11Pln
import Derived.Test.YthindbmgnkohhaaDoorT10Row
import Derived.Test.YthindbmgnkohhaaDoorU5Clone
import Derived.Test.YthindbmgnkohhaaDoorW1Has
namespace Go.Proofs.YthindbmgnkohhaaDoor
set_option linter.unusedVariables false
set_option linter.unusedSimpArgs false
set_option maxRecDepth 10000
open Go.RowKit Go.Sort

theorem id_same {x : Rw} {s : ByteArray} (h : keyR x = s.data.toList) : (x.id.toList == s.toList) = true := by
  rw [Lib.toList_data, Lib.toList_data]
  exact beq_iff_eq.2 h
theorem id_other {x : Rw} {s : ByteArray} (h : keyR x ≠ s.data.toList) : (x.id.toList == s.toList) = false := by
  rw [Lib.toList_data, Lib.toList_data]
  exact beq_false_of_ne h
theorem box3_put {w : World} {g : Nat} {t : TypeId} {x y z : Value} (h : Box w g t #[x, y, z]) (a b c : Value) : Box (((w.setCell ⟨g, 0, none⟩ a).setCell ⟨g, 1, none⟩ b).setCell ⟨g, 2, none⟩ c) g t #[a, b, c] := by
  have := ((h.wrote 0 a).wrote 1 b).wrote 2 c
  simpa using this
theorem below3_put {B : Nat} {w W : World} {g : Nat} (h : Below B w W) (hg : B ≤ g) (a b c : Value) : Below B w (((W.setCell ⟨g, 0, none⟩ a).setCell ⟨g, 1, none⟩ b).setCell ⟨g, 2, none⟩ c) :=
  ((h.setCell hg _).setCell hg _).setCell hg _
set_option maxRecDepth 100000 in
set_option maxHeartbeats 2000000 in
theorem find_any (A : Option Addr) (c : Nat) (xs : List Rw) (s : ByteArray) (hm : xs.length ≤ 1000000000) (hz : ∀ x ∈ xs, x.id.size ≤ 1000000) (w : World) (hR : RwRow w w.heap.size A xs) :
    Calls Tryd.prog 20 #[.slice A xs.length c, .string s] w (Tells (.tuple #[(findR xs s.data.toList).1.val, .bool (findR xs s.data.toList).2]) w.heap.size w) := by
  obtain ⟨V, hV⟩ : ∃ V : Rw × Bool, findR xs s.data.toList = V := ⟨_, rfl⟩
  rw [hV]
  have HV := hideIt hV
  clear hV
  have H0 := (Has.start w).add 50 #[.string ⟨#[]⟩, .int .u64 0, .int .u64 0]
  go_enter Tryd.func20, Tryd.ntmps20
  go_wp2
  generalize w.alloc (.cells #[.string ⟨#[]⟩, .int .u64 0, .int .u64 0] 50) = W at *
  go_loopg [10] xs.length (fun gk i wr => ∃ k : Nat, k ≤ xs.length ∧ xs.length - k ≤ gk ∧ i = .int .i64 k ∧ (∀ j y, j < k → xs[j]? = some y → keyR y ≠ s.data.toList) ∧ Has w [(w.heap.size, 50, #[.string ⟨#[]⟩, .int .u64 0, .int .u64 0])] wr)
  case atStart => exact ⟨0, Nat.zero_le _, by omega, rfl, fun j y hj => absurd hj (Nat.not_lt_zero _), H0⟩
  case round =>
    obtain ⟨k, hk, hgk, rfl, hb, H⟩ := hrel
    have HG := hideIt hgk
    have HB := hideIt hb
    clear hgk hb
    obtain ⟨z0, z1, z2, f0, f1, f2, hin⟩ := (H.box 0).three
    by_cases hlt : k < xs.length
    · obtain ⟨x, hx⟩ : ∃ x, xs[k]? = some x := ⟨_, List.getElem?_eq_getElem hlt⟩
      obtain ⟨ad, rfl, had, p0, p1, p2⟩ := (hR.call H.below) k x hx
      have hlti : (k : Int) < (xs.length : Int) := by omega
      have p3 : (ad.add (k * 3)).block < wr.heap.size := by rw [o10_block]; exact Nat.lt_of_lt_of_le had H.size
      have hsz := hz x (List.mem_of_getElem? hx)
      have HX := hideIt hx
      clear hx
      have H1 := H.add 50 #[.string x.id, .int .u64 x.h, .int .u64 x.l]
      go_upto_region 4 with fail
      generalize wr.alloc (.cells #[.string x.id, .int .u64 x.h, .int .u64 x.l] 50) = W1 at *
      obtain ⟨q0, q1, q2, r0, r1, r2, hin1⟩ := (H1.box 0).three
      obtain ⟨z0, z1, z2, f0, f1, f2, hin⟩ := (H1.box 1).three
      by_cases hk : keyR x = s.data.toList
      · have he := id_same hk
        have HF := hideIt (findR_hit HB.out HX.out hk)
        clear hk
        have cC := fun u => clone_any x.id (by omega) u
        go_wp2_with (first
          | (go_at_call 42; refine (cC _).mono ?_; rintro z v3 ⟨rfl, j3⟩
             have H2 := H1.call j3
             obtain ⟨q0, q1, q2, r0, r1, r2, hin1⟩ := (H2.box 0).three
             obtain ⟨z0, z1, z2, f0, f1, f2, hin⟩ := (H2.box 1).three)
          | fail)
        have H3 := H2.tail.set_ (p := ⟨wr.heap.size, 0, none⟩) H.size (by
          intro b hb
          rw [List.mem_singleton.1 hb]
          show w.heap.size ≠ wr.heap.size
          omega) (.string x.id)
        have B3 := box3_put (H3.box 0) (.string x.id) (.int .u64 x.h) (.int .u64 x.l)
        have L3 := below3_put H3.below (Nat.le_refl _) (.string x.id) (.int .u64 x.h) (.int .u64 x.l)
        obtain ⟨e0, e1, e2, -⟩ := B3.three
        have e := HF.out
        rw [HV.out] at e
        subst e
        exact bodyPost_ret (v := .tuple #[x.val, .bool true]) (by simp [results, Tryd.results20, go_sem, Rw.val, e0, e1, e2]) rfl ⟨rfl, L3⟩
      · have he := id_other hk
        have HF := hideIt hk
        clear hk
        go_wp2
        go_roundg (xs.length - (k + 1))
        case measure => have := HG.out; omega
        case rel => exact ⟨k + 1, by omega, Nat.le_refl _, by go_num, fun j y hj hy => by
          by_cases e : j = k
          · subst e
            rw [HX.out] at hy
            injection hy with hy
            subst hy
            exact HF.out
          · exact HB.out j y (by omega) hy, H1.tail⟩
    · have e : k = xs.length := by omega
      subst e
      have HF := hideIt (findR_none HB.out)
      go_wp2
      have B3 := box3_put (H.box 0) (.string ⟨#[]⟩) (.int .u64 0) (.int .u64 0)
      have L3 := below3_put H.below (Nat.le_refl _) (.string ⟨#[]⟩) (.int .u64 0) (.int .u64 0)
      obtain ⟨e0, e1, e2, -⟩ := B3.three
      have e := HF.out
      rw [HV.out] at e
      subst e
      exact bodyPost_ret (v := .tuple #[Rw.zero.val, .bool false]) (by simp [results, Tryd.results20, go_sem, Rw.val, Rw.zero, e0, e1, e2]) rfl ⟨rfl, L3⟩
set_option maxRecDepth 100000 in
set_option maxHeartbeats 2000000 in
theorem rfind_any (A : Option Addr) (c : Nat) (xs : List Rw) (s : ByteArray) (hm : xs.length ≤ 1000000000) (w : World) (hR : RwRow w w.heap.size A xs) :
    Calls Tryd.prog 52 #[.slice A xs.length c, .string s] w (Tells (.tuple #[(findR xs s.data.toList).1.val, .bool (findR xs s.data.toList).2]) w.heap.size w) := by
  obtain ⟨V, hV⟩ : ∃ V : Rw × Bool, findR xs s.data.toList = V := ⟨_, rfl⟩
  rw [hV]
  have HV := hideIt hV
  clear hV
  have H0 := (Has.start w).add 50 #[.string ⟨#[]⟩, .int .u64 0, .int .u64 0]
  go_enter Tryd.func52, Tryd.ntmps52
  go_wp2
  generalize w.alloc (.cells #[.string ⟨#[]⟩, .int .u64 0, .int .u64 0] 50) = W at *
  go_loopg [6] xs.length (fun gk i wr => ∃ k : Nat, k ≤ xs.length ∧ xs.length - k ≤ gk ∧ i = .int .i64 k ∧ (∀ j y, j < k → xs[j]? = some y → keyR y ≠ s.data.toList) ∧ Has w [(w.heap.size, 50, #[.string ⟨#[]⟩, .int .u64 0, .int .u64 0])] wr)
  case atStart => exact ⟨0, Nat.zero_le _, by omega, rfl, fun j y hj => absurd hj (Nat.not_lt_zero _), H0⟩
  case round =>
    obtain ⟨k, hk, hgk, rfl, hb, H⟩ := hrel
    have HG := hideIt hgk
    have HB := hideIt hb
    clear hgk hb
    obtain ⟨z0, z1, z2, f0, f1, f2, hin⟩ := (H.box 0).three
    by_cases hlt : k < xs.length
    · obtain ⟨x, hx⟩ : ∃ x, xs[k]? = some x := ⟨_, List.getElem?_eq_getElem hlt⟩
      obtain ⟨ad, rfl, had, p0, p1, p2⟩ := (hR.call H.below) k x hx
      have hlti : (k : Int) < (xs.length : Int) := by omega
      have p3 : (ad.add (k * 3)).block < wr.heap.size := by rw [o10_block]; exact Nat.lt_of_lt_of_le had H.size
      have HX := hideIt hx
      clear hx
      by_cases hk : keyR x = s.data.toList
      · have he := id_same hk
        have HF := hideIt (findR_hit HB.out HX.out hk)
        clear hk
        go_wp2
        have B3 := box3_put (H.box 0) (.string x.id) (.int .u64 x.h) (.int .u64 x.l)
        have L3 := below3_put H.below (Nat.le_refl _) (.string x.id) (.int .u64 x.h) (.int .u64 x.l)
        obtain ⟨e0, e1, e2, -⟩ := B3.three
        have e := HF.out
        rw [HV.out] at e
        subst e
        exact bodyPost_ret (v := .tuple #[x.val, .bool true]) (by simp [results, Tryd.results52, go_sem, Rw.val, e0, e1, e2]) rfl ⟨rfl, L3⟩
      · have he := id_other hk
        have HF := hideIt hk
        clear hk
        go_wp2
        go_roundg (xs.length - (k + 1))
        case measure => have := HG.out; omega
        case rel => exact ⟨k + 1, by omega, Nat.le_refl _, by go_num, fun j y hj hy => by
          by_cases e : j = k
          · subst e
            rw [HX.out] at hy
            injection hy with hy
            subst hy
            exact HF.out
          · exact HB.out j y (by omega) hy, H⟩
    · have e : k = xs.length := by omega
      subst e
      have HF := hideIt (findR_none HB.out)
      go_wp2
      have B3 := box3_put (H.box 0) (.string ⟨#[]⟩) (.int .u64 0) (.int .u64 0)
      have L3 := below3_put H.below (Nat.le_refl _) (.string ⟨#[]⟩) (.int .u64 0) (.int .u64 0)
      obtain ⟨e0, e1, e2, -⟩ := B3.three
      have e := HF.out
      rw [HV.out] at e
      subst e
      exact bodyPost_ret (v := .tuple #[Rw.zero.val, .bool false]) (by simp [results, Tryd.results52, go_sem, Rw.val, Rw.zero, e0, e1, e2]) rfl ⟨rfl, L3⟩
end Go.Proofs.YthindbmgnkohhaaDoor
