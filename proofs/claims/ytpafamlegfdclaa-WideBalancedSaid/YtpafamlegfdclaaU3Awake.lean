/-
  paymasterlaw03.awake, walked: the chapter's examples are answered as the chapter has them. With it: '==' and '!=' on wide numbers; a row of numbers in a block.
-/
import Derived.Test.YtpafamlegfdclaaU3All
import Derived.Test.YtpafamlegfdclaaL1SumsN
import Derived.Test.YtpafamlegfdclaaE3Same
import Derived.BigQuiet
import Derived.Deep.QuietTactic
namespace Go.Proofs.Ytpafamlegfdclaa
set_option linter.unusedVariables false
set_option linter.unusedSimpArgs false
open Go.RowKit

/-- A block laid as the last one, where it lies said by a number. -/
theorem Box.last {w : World} {g : Nat} (t : TypeId) (cs : Array Value) (h : w.heap.size = g) : Box (w.alloc (.cells cs t)) g t cs := h ▸ Box.made w t cs
/-- Numbers in a block of their own, as a row. -/
theorem row_box {w : World} {g B : Nat} {t : TypeId} {cs : Array Value} (xs : List (Int × Int)) (h : Box w g t cs) (hg : g < B) (e : cs = (flat xs).toArray) : NumRow w B (some ⟨g, 0, none⟩) xs := by
  subst e
  intro i x y hx
  obtain ⟨c0, c1⟩ := flat_get xs i x y hx
  have e : ∀ j, (⟨g, 0, none⟩ : Addr).add j = ⟨g, j, none⟩ := fun j => by simp [Addr.add]; exact fun hj => hj.symm
  refine ⟨_, rfl, hg, ?_, ?_⟩
  · rw [e, h.read]; simpa using c0
  · rw [e, h.read]; simpa using c1
theorem NumRow.nil (w : World) (B : Nat) (A : Option Addr) : NumRow w B A [] := fun i x y hx => by simp at hx
theorem allnum_two {a b : Int} (h0 : 0 ≤ a := by decide) (h1 : a < 18446744073709551616 := by decide) (h2 : 0 ≤ b := by decide) (h3 : b < 18446744073709551616 := by decide) : AllNum [((0 : Int), a), ((0 : Int), b)] := by
  intro x hx
  simp at hx
  rcases hx with rfl | rfl
  · exact ⟨⟨Int.le_refl 0, by show (0 : Int) < _; decide⟩, h0, h1⟩
  · exact ⟨⟨Int.le_refl 0, by show (0 : Int) < _; decide⟩, h2, h3⟩
theorem allnum_one {a : Int} (h0 : 0 ≤ a := by decide) (h1 : a < 18446744073709551616 := by decide) : AllNum [((0 : Int), a)] := by
  intro x hx
  simp at hx
  subst hx
  exact ⟨⟨Int.le_refl 0, by show (0 : Int) < _; decide⟩, h0, h1⟩
theorem allnum_nil : AllNum [] := fun x hx => by simp at hx

theorem wplus_ex (w : World) : Calls Try.prog 13 #[wide 0 18446744073709551615 18446744073709551615, .agg #[.int .u64 0, .int .u64 1]] w (Tells (wide 1 0 0) w.heap.size w) := by
  have h := plus_any 0 18446744073709551615 18446744073709551615 0 1 word_lit word_lit word_lit word_lit word_lit w
  rw [told, show wH (wv 0 18446744073709551615 18446744073709551615 + nv 0 1) = 1 by decide, show wh (wv 0 18446744073709551615 18446744073709551615 + nv 0 1) = 0 by decide, show wl (wv 0 18446744073709551615 18446744073709551615 + nv 0 1) = 0 by decide] at h
  exact h
theorem wnarrow_ex1 (w : World) : Calls Try.prog 9 #[wide 1 0 0] w (Tells (.tuple #[.agg #[.int .u64 0, .int .u64 0], .int .i64 10]) w.heap.size w) :=
  (narrow_any 1 0 0 word_lit word_lit word_lit w).mono fun e w' hf => Fit.no (by decide) hf
theorem wnarrow_ex2 (w : World) : Calls Try.prog 9 #[wide 0 0 7] w (Tells (.tuple #[.agg #[.int .u64 0, .int .u64 7], .int .i64 0]) w.heap.size w) :=
  (narrow_any 0 0 7 word_lit word_lit word_lit w).mono fun e w' hf => Fit.yes (h := 0) (l := 7) (by decide) word_lit word_lit hf
theorem wall_ex (g : Nat) (w : World) (h : Box w g 24 #[.int .u64 0, .int .u64 3, .int .u64 0, .int .u64 4]) : Calls Try.prog 21 #[.slice (some ⟨g, 0, none⟩) 2 2] w (Tells (wide 0 0 7) w.heap.size w) := by
  have h := all_any (some ⟨g, 0, none⟩) 2 [(0, 3), (0, 4)] allnum_two (by decide) w (row_box _ h h.inside rfl)
  rw [told, show wH (sumN [(0, 3), (0, 4)]) = 0 by decide, show wh (sumN [(0, 3), (0, 4)]) = 0 by decide, show wl (sumN [(0, 3), (0, 4)]) = 7 by decide] at h
  exact h
theorem wbal_ex1 (g g' : Nat) (w : World) (h : Box w g 24 #[.int .u64 0, .int .u64 3, .int .u64 0, .int .u64 4]) (h' : Box w g' 24 #[.int .u64 0, .int .u64 5, .int .u64 0, .int .u64 2]) :
    Calls Try.prog 23 #[.slice (some ⟨g, 0, none⟩) 2 2, .slice (some ⟨g', 0, none⟩) 2 2] w (Tells (.bool true) w.heap.size w) := by
  have h := balanced_any (some ⟨g, 0, none⟩) (some ⟨g', 0, none⟩) 2 2 [(0, 3), (0, 4)] [(0, 5), (0, 2)] allnum_two allnum_two (by decide) (by decide) w (row_box _ h h.inside rfl) (row_box _ h' h'.inside rfl)
  rw [show decide (sumN [(0, 3), (0, 4)] = sumN [(0, 5), (0, 2)]) = true by decide] at h
  exact h
theorem wbal_ex2 (g : Nat) (w : World) (h : Box w g 24 #[.int .u64 0, .int .u64 3]) :
    Calls Try.prog 23 #[.slice (some ⟨g, 0, none⟩) 1 1, .slice none 0 0] w (Tells (.bool false) w.heap.size w) := by
  have h := balanced_any (some ⟨g, 0, none⟩) none 1 0 [(0, 3)] [] allnum_one allnum_nil (by decide) (by decide) w (row_box _ h h.inside rfl) (NumRow.nil _ _ _)
  rw [show decide (sumN [(0, 3)] = sumN []) = false by decide] at h
  exact h
theorem wless_ex1 (w : World) : Calls Try.prog 19 #[wide 0 18446744073709551615 18446744073709551615, wide 1 0 0] w (Tells (.bool true) w.heap.size w) := by
  have h := wless_any 0 18446744073709551615 18446744073709551615 1 0 0 word_lit word_lit word_lit word_lit w
  rw [show decide (cmpI (wv 0 18446744073709551615 18446744073709551615) (wv 1 0 0) < 0) = true by decide] at h
  exact h
theorem wless_ex2 (w : World) : Calls Try.prog 19 #[wide 1 0 0, wide 1 0 0] w (Tells (.bool false) w.heap.size w) := by
  have h := wless_any 1 0 0 1 0 0 word_lit word_lit word_lit word_lit w
  rw [show decide (cmpI (wv 1 0 0) (wv 1 0 0) < 0) = false by decide] at h
  exact h

set_option maxRecDepth 100000 in
set_option maxHeartbeats 16000000 in
theorem wawake_any (w : World) : Calls Try.prog 24 #[] w (Tells (.bool true) w.heap.size w) := by
  have hq1 : ∀ u : World, (binOp .eql 26 (wide 1 0 0) (wide 1 0 0)).run Try.prog u = .ok (.bool true) u := fun u => by rw [run_eql_wide]; rfl
  have hq2 : ∀ u : World, (binOp .eql 24 (.agg #[.int .u64 0, .int .u64 7]) (.agg #[.int .u64 0, .int .u64 7])).run Try.prog u = .ok (.bool true) u := fun u => by rw [run_eql_nm]; rfl
  have K0 := Has.start w
  go_enter Try.func24, Try.ntmps24
  go_upto_region 2 with (first
    | (go_at_call 28; refine (most_any _).mono ?_; rintro e w1 ⟨rfl, h1⟩)
    | (go_at_call 11; refine (wof_any _ _ _).mono ?_; rintro e w2 ⟨rfl, h2⟩)
    | (go_at_call 29; refine (of_any _ _).mono ?_; rintro e w3 ⟨rfl, h3⟩)
    | (go_at_call 13; refine (wplus_ex _).mono ?_; rintro e w4 ⟨rfl, h4⟩))
  have K1 := ((((K0.call h1).call h2).call h3).call h4).add 26 #[.int .u64 1, .int .u64 0, .int .u64 0]
  generalize w4.alloc (.cells #[.int .u64 1, .int .u64 0, .int .u64 0] 26) = W1 at *
  clear h1 h2 h3 h4
  obtain ⟨p1, p2, p3, p4, p5, p6, p7⟩ := (K1.box 0).three
  go_upto_region 3 with (first
    | (go_at_call 9; refine (wnarrow_ex1 _).mono ?_; rintro e w5 ⟨rfl, h5⟩))
  have K2 := (K1.call h5).past (.cells #[.int .u64 0, .int .u64 0] 24)
  generalize w5.alloc (.cells #[.int .u64 0, .int .u64 0] 24) = W2 at *
  clear h5 p1 p2 p3 p4 p5 p6 p7
  go_upto_region 4 with (first
    | (go_at_call_of 29 (Value.int IntKind.u64 3); refine (of_any _ _).mono ?_; rintro e v1 ⟨rfl, k1⟩)
    | (go_at_call_of 29 (Value.int IntKind.u64 4); refine (of_any _ _).mono ?_; rintro e v2 ⟨rfl, k2⟩
       have S2 := Box.made v2 24 #[.int .u64 0, .int .u64 3, .int .u64 0, .int .u64 4])
    | (go_at_call 21; refine (wall_ex _ _ S2).mono ?_; rintro e v3 ⟨rfl, k3⟩)
    | (go_at_call 9; refine (wnarrow_ex2 _).mono ?_; rintro e v4 ⟨rfl, k4⟩))
  have K3 := (((((K2.call k1).call k2).past (.cells #[.int .u64 0, .int .u64 3, .int .u64 0, .int .u64 4] 24)).call k3).call k4).add 24 #[.int .u64 0, .int .u64 7]
  generalize v4.alloc (.cells #[.int .u64 0, .int .u64 7] 24) = W3 at *
  clear k1 k2 k3 k4 K0 K1 K2
  have fact : ∀ u, Has w [(v4.heap.size, 24, #[.int .u64 0, .int .u64 7]), (w4.heap.size, 26, #[.int .u64 1, .int .u64 0, .int .u64 0])] u →
      u.cell? ⟨w4.heap.size, 0, none⟩ = some (.int .u64 1) ∧ u.cell? ⟨w4.heap.size, 1, none⟩ = some (.int .u64 0) ∧ u.cell? ⟨w4.heap.size, 2, none⟩ = some (.int .u64 0) ∧ u.cell? ⟨v4.heap.size, 0, none⟩ = some (.int .u64 0) ∧ u.cell? ⟨v4.heap.size, 1, none⟩ = some (.int .u64 7) := fun u hu => ⟨(hu.box 1).read 0, (hu.box 1).read 1, (hu.box 1).read 2, (hu.box 0).read 0, (hu.box 0).read 1⟩
  go_region_held3 (fun w' => Has w [(v4.heap.size, 24, #[.int .u64 0, .int .u64 7]), (w4.heap.size, 26, #[.int .u64 1, .int .u64 0, .int .u64 0])] w' ∧
      w'.cell? ⟨w4.heap.size, 0, none⟩ = some (.int .u64 1) ∧ w'.cell? ⟨w4.heap.size, 1, none⟩ = some (.int .u64 0) ∧ w'.cell? ⟨w4.heap.size, 2, none⟩ = some (.int .u64 0) ∧ w'.cell? ⟨v4.heap.size, 0, none⟩ = some (.int .u64 0) ∧ w'.cell? ⟨v4.heap.size, 1, none⟩ = some (.int .u64 7))
    (first | exact held_drew fact K3 | exact held_keep fact (by assumption) (by assumption) | exact held_past fact (by assumption) _)
    (first
      | (go_at_call_of 29 (Value.int IntKind.u64 7); refine (of_any _ _).mono ?_; rintro e y1 ⟨rfl, j1⟩)
      | (go_at_call_of 29 (Value.int IntKind.u64 3); refine (of_any _ _).mono ?_; rintro e y2 ⟨rfl, j2⟩)
      | (go_at_call_of 29 (Value.int IntKind.u64 4); refine (of_any _ _).mono ?_; rintro e y3 ⟨rfl, j3⟩)
      | (go_at_call_of 29 (Value.int IntKind.u64 5); refine (of_any _ _).mono ?_; rintro e y4 ⟨rfl, j4⟩)
      | (go_at_call_of 29 (Value.int IntKind.u64 2); refine (of_any _ _).mono ?_; rintro e y5 ⟨rfl, j5⟩)
      | (go_at_call_of 23 (Value.slice none 0 0); refine (wbal_ex2 _ _ ?_).mono ?_; (focus (first | (refine Box.made _ _ _; done) | (refine Box.last _ _ ?_; simp; done) | (refine Box.past ?_ _; (first | (refine Box.made _ _ _; done) | (refine Box.last _ _ ?_; simp; done) | (refine Box.past ?_ _; (first | (refine Box.made _ _ _; done) | (refine Box.last _ _ ?_; simp; done) | (refine Box.past ?_ _; (first | (refine Box.made _ _ _; done) | (refine Box.last _ _ ?_; simp; done) | (refine Box.past ?_ _; (first | (refine Box.made _ _ _; done) | (refine Box.last _ _ ?_; simp; done) | fail)) | (refine Box.call ?_ (by assumption); (first | (refine Box.made _ _ _; done) | (refine Box.last _ _ ?_; simp; done) | fail)) | fail)) | (refine Box.call ?_ (by assumption); (first | (refine Box.made _ _ _; done) | (refine Box.last _ _ ?_; simp; done) | (refine Box.past ?_ _; (first | (refine Box.made _ _ _; done) | (refine Box.last _ _ ?_; simp; done) | fail)) | (refine Box.call ?_ (by assumption); (first | (refine Box.made _ _ _; done) | (refine Box.last _ _ ?_; simp; done) | fail)) | fail)) | fail)) | (refine Box.call ?_ (by assumption); (first | (refine Box.made _ _ _; done) | (refine Box.last _ _ ?_; simp; done) | (refine Box.past ?_ _; (first | (refine Box.made _ _ _; done) | (refine Box.last _ _ ?_; simp; done) | (refine Box.past ?_ _; (first | (refine Box.made _ _ _; done) | (refine Box.last _ _ ?_; simp; done) | fail)) | (refine Box.call ?_ (by assumption); (first | (refine Box.made _ _ _; done) | (refine Box.last _ _ ?_; simp; done) | fail)) | fail)) | (refine Box.call ?_ (by assumption); (first | (refine Box.made _ _ _; done) | (refine Box.last _ _ ?_; simp; done) | (refine Box.past ?_ _; (first | (refine Box.made _ _ _; done) | (refine Box.last _ _ ?_; simp; done) | fail)) | (refine Box.call ?_ (by assumption); (first | (refine Box.made _ _ _; done) | (refine Box.last _ _ ?_; simp; done) | fail)) | fail)) | fail)) | fail)) | (refine Box.call ?_ (by assumption); (first | (refine Box.made _ _ _; done) | (refine Box.last _ _ ?_; simp; done) | (refine Box.past ?_ _; (first | (refine Box.made _ _ _; done) | (refine Box.last _ _ ?_; simp; done) | (refine Box.past ?_ _; (first | (refine Box.made _ _ _; done) | (refine Box.last _ _ ?_; simp; done) | (refine Box.past ?_ _; (first | (refine Box.made _ _ _; done) | (refine Box.last _ _ ?_; simp; done) | fail)) | (refine Box.call ?_ (by assumption); (first | (refine Box.made _ _ _; done) | (refine Box.last _ _ ?_; simp; done) | fail)) | fail)) | (refine Box.call ?_ (by assumption); (first | (refine Box.made _ _ _; done) | (refine Box.last _ _ ?_; simp; done) | (refine Box.past ?_ _; (first | (refine Box.made _ _ _; done) | (refine Box.last _ _ ?_; simp; done) | fail)) | (refine Box.call ?_ (by assumption); (first | (refine Box.made _ _ _; done) | (refine Box.last _ _ ?_; simp; done) | fail)) | fail)) | fail)) | (refine Box.call ?_ (by assumption); (first | (refine Box.made _ _ _; done) | (refine Box.last _ _ ?_; simp; done) | (refine Box.past ?_ _; (first | (refine Box.made _ _ _; done) | (refine Box.last _ _ ?_; simp; done) | (refine Box.past ?_ _; (first | (refine Box.made _ _ _; done) | (refine Box.last _ _ ?_; simp; done) | fail)) | (refine Box.call ?_ (by assumption); (first | (refine Box.made _ _ _; done) | (refine Box.last _ _ ?_; simp; done) | fail)) | fail)) | (refine Box.call ?_ (by assumption); (first | (refine Box.made _ _ _; done) | (refine Box.last _ _ ?_; simp; done) | (refine Box.past ?_ _; (first | (refine Box.made _ _ _; done) | (refine Box.last _ _ ?_; simp; done) | fail)) | (refine Box.call ?_ (by assumption); (first | (refine Box.made _ _ _; done) | (refine Box.last _ _ ?_; simp; done) | fail)) | fail)) | fail)) | fail)) | fail)); rintro e y7 ⟨rfl, j7⟩)
      | (go_at_call 28; refine (most_any _).mono ?_; rintro e y8 ⟨rfl, j8⟩)
      | (go_at_call 11; refine (wof_any _ _ _).mono ?_; rintro e y9 ⟨rfl, j9⟩)
      | (go_at_call 19; ((with_reducible refine (wless_ex1 _).mono ?_); rintro e z1 ⟨rfl, j10⟩))
      | (go_at_call 19; ((with_reducible refine (wless_ex2 _).mono ?_); rintro e z2 ⟨rfl, j11⟩))
      | (go_at_call 23; refine (wbal_ex1 _ _ _ ?_ ?_).mono ?_; (focus (first | (refine Box.made _ _ _; done) | (refine Box.last _ _ ?_; simp; done) | (refine Box.past ?_ _; (first | (refine Box.made _ _ _; done) | (refine Box.last _ _ ?_; simp; done) | (refine Box.past ?_ _; (first | (refine Box.made _ _ _; done) | (refine Box.last _ _ ?_; simp; done) | (refine Box.past ?_ _; (first | (refine Box.made _ _ _; done) | (refine Box.last _ _ ?_; simp; done) | (refine Box.past ?_ _; (first | (refine Box.made _ _ _; done) | (refine Box.last _ _ ?_; simp; done) | fail)) | (refine Box.call ?_ (by assumption); (first | (refine Box.made _ _ _; done) | (refine Box.last _ _ ?_; simp; done) | fail)) | fail)) | (refine Box.call ?_ (by assumption); (first | (refine Box.made _ _ _; done) | (refine Box.last _ _ ?_; simp; done) | (refine Box.past ?_ _; (first | (refine Box.made _ _ _; done) | (refine Box.last _ _ ?_; simp; done) | fail)) | (refine Box.call ?_ (by assumption); (first | (refine Box.made _ _ _; done) | (refine Box.last _ _ ?_; simp; done) | fail)) | fail)) | fail)) | (refine Box.call ?_ (by assumption); (first | (refine Box.made _ _ _; done) | (refine Box.last _ _ ?_; simp; done) | (refine Box.past ?_ _; (first | (refine Box.made _ _ _; done) | (refine Box.last _ _ ?_; simp; done) | (refine Box.past ?_ _; (first | (refine Box.made _ _ _; done) | (refine Box.last _ _ ?_; simp; done) | fail)) | (refine Box.call ?_ (by assumption); (first | (refine Box.made _ _ _; done) | (refine Box.last _ _ ?_; simp; done) | fail)) | fail)) | (refine Box.call ?_ (by assumption); (first | (refine Box.made _ _ _; done) | (refine Box.last _ _ ?_; simp; done) | (refine Box.past ?_ _; (first | (refine Box.made _ _ _; done) | (refine Box.last _ _ ?_; simp; done) | fail)) | (refine Box.call ?_ (by assumption); (first | (refine Box.made _ _ _; done) | (refine Box.last _ _ ?_; simp; done) | fail)) | fail)) | fail)) | fail)) | (refine Box.call ?_ (by assumption); (first | (refine Box.made _ _ _; done) | (refine Box.last _ _ ?_; simp; done) | (refine Box.past ?_ _; (first | (refine Box.made _ _ _; done) | (refine Box.last _ _ ?_; simp; done) | (refine Box.past ?_ _; (first | (refine Box.made _ _ _; done) | (refine Box.last _ _ ?_; simp; done) | (refine Box.past ?_ _; (first | (refine Box.made _ _ _; done) | (refine Box.last _ _ ?_; simp; done) | fail)) | (refine Box.call ?_ (by assumption); (first | (refine Box.made _ _ _; done) | (refine Box.last _ _ ?_; simp; done) | fail)) | fail)) | (refine Box.call ?_ (by assumption); (first | (refine Box.made _ _ _; done) | (refine Box.last _ _ ?_; simp; done) | (refine Box.past ?_ _; (first | (refine Box.made _ _ _; done) | (refine Box.last _ _ ?_; simp; done) | fail)) | (refine Box.call ?_ (by assumption); (first | (refine Box.made _ _ _; done) | (refine Box.last _ _ ?_; simp; done) | fail)) | fail)) | fail)) | (refine Box.call ?_ (by assumption); (first | (refine Box.made _ _ _; done) | (refine Box.last _ _ ?_; simp; done) | (refine Box.past ?_ _; (first | (refine Box.made _ _ _; done) | (refine Box.last _ _ ?_; simp; done) | (refine Box.past ?_ _; (first | (refine Box.made _ _ _; done) | (refine Box.last _ _ ?_; simp; done) | fail)) | (refine Box.call ?_ (by assumption); (first | (refine Box.made _ _ _; done) | (refine Box.last _ _ ?_; simp; done) | fail)) | fail)) | (refine Box.call ?_ (by assumption); (first | (refine Box.made _ _ _; done) | (refine Box.last _ _ ?_; simp; done) | (refine Box.past ?_ _; (first | (refine Box.made _ _ _; done) | (refine Box.last _ _ ?_; simp; done) | fail)) | (refine Box.call ?_ (by assumption); (first | (refine Box.made _ _ _; done) | (refine Box.last _ _ ?_; simp; done) | fail)) | fail)) | fail)) | fail)) | fail)); (focus (first | (refine Box.made _ _ _; done) | (refine Box.last _ _ ?_; simp; done) | (refine Box.past ?_ _; (first | (refine Box.made _ _ _; done) | (refine Box.last _ _ ?_; simp; done) | (refine Box.past ?_ _; (first | (refine Box.made _ _ _; done) | (refine Box.last _ _ ?_; simp; done) | (refine Box.past ?_ _; (first | (refine Box.made _ _ _; done) | (refine Box.last _ _ ?_; simp; done) | (refine Box.past ?_ _; (first | (refine Box.made _ _ _; done) | (refine Box.last _ _ ?_; simp; done) | fail)) | (refine Box.call ?_ (by assumption); (first | (refine Box.made _ _ _; done) | (refine Box.last _ _ ?_; simp; done) | fail)) | fail)) | (refine Box.call ?_ (by assumption); (first | (refine Box.made _ _ _; done) | (refine Box.last _ _ ?_; simp; done) | (refine Box.past ?_ _; (first | (refine Box.made _ _ _; done) | (refine Box.last _ _ ?_; simp; done) | fail)) | (refine Box.call ?_ (by assumption); (first | (refine Box.made _ _ _; done) | (refine Box.last _ _ ?_; simp; done) | fail)) | fail)) | fail)) | (refine Box.call ?_ (by assumption); (first | (refine Box.made _ _ _; done) | (refine Box.last _ _ ?_; simp; done) | (refine Box.past ?_ _; (first | (refine Box.made _ _ _; done) | (refine Box.last _ _ ?_; simp; done) | (refine Box.past ?_ _; (first | (refine Box.made _ _ _; done) | (refine Box.last _ _ ?_; simp; done) | fail)) | (refine Box.call ?_ (by assumption); (first | (refine Box.made _ _ _; done) | (refine Box.last _ _ ?_; simp; done) | fail)) | fail)) | (refine Box.call ?_ (by assumption); (first | (refine Box.made _ _ _; done) | (refine Box.last _ _ ?_; simp; done) | (refine Box.past ?_ _; (first | (refine Box.made _ _ _; done) | (refine Box.last _ _ ?_; simp; done) | fail)) | (refine Box.call ?_ (by assumption); (first | (refine Box.made _ _ _; done) | (refine Box.last _ _ ?_; simp; done) | fail)) | fail)) | fail)) | fail)) | (refine Box.call ?_ (by assumption); (first | (refine Box.made _ _ _; done) | (refine Box.last _ _ ?_; simp; done) | (refine Box.past ?_ _; (first | (refine Box.made _ _ _; done) | (refine Box.last _ _ ?_; simp; done) | (refine Box.past ?_ _; (first | (refine Box.made _ _ _; done) | (refine Box.last _ _ ?_; simp; done) | (refine Box.past ?_ _; (first | (refine Box.made _ _ _; done) | (refine Box.last _ _ ?_; simp; done) | fail)) | (refine Box.call ?_ (by assumption); (first | (refine Box.made _ _ _; done) | (refine Box.last _ _ ?_; simp; done) | fail)) | fail)) | (refine Box.call ?_ (by assumption); (first | (refine Box.made _ _ _; done) | (refine Box.last _ _ ?_; simp; done) | (refine Box.past ?_ _; (first | (refine Box.made _ _ _; done) | (refine Box.last _ _ ?_; simp; done) | fail)) | (refine Box.call ?_ (by assumption); (first | (refine Box.made _ _ _; done) | (refine Box.last _ _ ?_; simp; done) | fail)) | fail)) | fail)) | (refine Box.call ?_ (by assumption); (first | (refine Box.made _ _ _; done) | (refine Box.last _ _ ?_; simp; done) | (refine Box.past ?_ _; (first | (refine Box.made _ _ _; done) | (refine Box.last _ _ ?_; simp; done) | (refine Box.past ?_ _; (first | (refine Box.made _ _ _; done) | (refine Box.last _ _ ?_; simp; done) | fail)) | (refine Box.call ?_ (by assumption); (first | (refine Box.made _ _ _; done) | (refine Box.last _ _ ?_; simp; done) | fail)) | fail)) | (refine Box.call ?_ (by assumption); (first | (refine Box.made _ _ _; done) | (refine Box.last _ _ ?_; simp; done) | (refine Box.past ?_ _; (first | (refine Box.made _ _ _; done) | (refine Box.last _ _ ?_; simp; done) | fail)) | (refine Box.call ?_ (by assumption); (first | (refine Box.made _ _ _; done) | (refine Box.last _ _ ?_; simp; done) | fail)) | fail)) | fail)) | fail)) | fail)); rintro e y6 ⟨rfl, j6⟩)
      | fail)
  all_goals go_wp2
  all_goals
    have hh : ∃ Q, Has w [(v4.heap.size, 24, #[.int .u64 0, .int .u64 7]), (w4.heap.size, 26, #[.int .u64 1, .int .u64 0, .int .u64 0])] z2 ∧ Q := ⟨_, by assumption⟩
    obtain ⟨Q, hh, -⟩ := hh
    go_ret
    exact ⟨rfl, hh.below⟩
end Go.Proofs.Ytpafamlegfdclaa
