/- Several of my texts, laid as one. -/
import Derived.Test.YtmflhodiibjpnaaGreatDoorM13Fn
import Derived.Test.YtmflhodiibjpnaaGreatDoorW7Leaf
import Derived.Test.YtmflhodiibjpnaaGreatDoorU7Leaf
/-
  pack, walked: what is wrong with a thing: long, first, of nodes, roots, leaves, rows of nodes, proofs.
-/
namespace Go.Proofs.YtmflhodiibjpnaaGreatDoor
set_option linter.unusedVariables false
set_option linter.unusedSimpArgs false
set_option maxRecDepth 10000
open Go.RowKit

/-- What is told of two errors. -/
def fst2 (a b : Int) : Int := if a = 0 ∨ b = 130 then b else a
def wrLong (b : Bool) : Int := if b then 3 else 0
def wrN (x : Nd) : Int := wrLong (decide (32 < x.hash.size))
def wrR (x : RtP) : Int := wrLong x.long
def wrLf (x : Lf) : Int := if x.may then 0 else 130
def wrNs (l : List Nd) : Int := l.foldl (fun e x => fst2 e (wrN x)) (wrLong (decide (2048 < l.length)))
theorem fold_N : ∀ (l : List Nd) (b : Bool), l.foldl (fun e x => fst2 e (wrN x)) (wrLong b) = wrLong (b || l.any (fun n => decide (32 < n.hash.size)))
  | [], b => by simp
  | x :: r, b => by
    rw [List.foldl_cons]
    have e : fst2 (wrLong b) (wrN x) = wrLong (b || decide (32 < x.hash.size)) := by
      unfold wrN
      cases b <;> cases decide (32 < x.hash.size) <;> rfl
    rw [e, fold_N r, List.any_cons, Bool.or_assoc]
theorem wrNs_long (l : List Nd) : wrNs l = wrLong (longN l) := fold_N l _
theorem long_any (b : Bool) (w : World) : Calls Tryz.prog 95 #[.bool b] w (Still (.int .i64 (wrLong b)) w) := by
  cases b with
  | true =>
    go_enter Tryz.func95, Tryz.ntmps95
    go_wp2
    go_ret
    exact ⟨rfl, rfl⟩
  | false =>
    go_enter Tryz.func95, Tryz.ntmps95
    go_wp2
    go_ret
    exact ⟨rfl, rfl⟩
set_option maxHeartbeats 1000000 in
theorem wrR_any (x : RtP) (hs : x.hash.size ≤ 9223372036854775807) (w : World) : Calls Tryz.prog 94 #[x.val] w (Tells (.int .i64 (wrR x)) w.heap.size w) := by
  obtain ⟨s, h, l, n⟩ := x
  simp only at hs
  have c := fun b u => long_any b u
  unfold wrR RtP.long
  simp only
  show Calls _ _ #[.agg (rtB s h l n)] _ _
  by_cases h1 : 32 < s.size
  · have h1i : (32 : Int) < (s.size : Int) := by omega
    rw [decide_eq_true h1, Bool.true_or]
    have H0 := (Has.start w).add 26 (rtB s h l n)
    go_enter Tryz.func94, Tryz.ntmps94
    go_upto_region 1 with fail
    change Code.wp _ _ _ _ (w.alloc (.cells (rtB s h l n) 26))
    generalize w.alloc (.cells (rtB s h l n) 26) = V0 at *
    obtain ⟨⟨q0, q1, q2, q3⟩, -, hin⟩ := (H0.box 0).four
    go_wp2_with (first | (go_at_call 95; refine (c _ _).mono ?_; rintro e w1 ⟨rfl, rfl⟩) | fail)
    go_ret
    exact ⟨rfl, H0.below⟩
  · have h1i : ¬ ((32 : Int) < (s.size : Int)) := by omega
    rw [decide_eq_false h1, Bool.false_or]
    by_cases h2 : n < 0
    · rw [decide_eq_true h2, Bool.true_or]
      have H0 := (Has.start w).add 26 (rtB s h l n)
      go_enter Tryz.func94, Tryz.ntmps94
      go_upto_region 1 with fail
      change Code.wp _ _ _ _ (w.alloc (.cells (rtB s h l n) 26))
      generalize w.alloc (.cells (rtB s h l n) 26) = V0 at *
      obtain ⟨⟨q0, q1, q2, q3⟩, -, hin⟩ := (H0.box 0).four
      go_wp2_with (first | (go_at_call 95; refine (c _ _).mono ?_; rintro e w1 ⟨rfl, rfl⟩) | fail)
      go_ret
      exact ⟨rfl, H0.below⟩
    · rw [decide_eq_false h2, Bool.false_or]
      obtain ⟨b, hb⟩ : ∃ b, decide (63 < n) = b := ⟨_, rfl⟩
      rw [hb]
      have H0 := (Has.start w).add 26 (rtB s h l n)
      go_enter Tryz.func94, Tryz.ntmps94
      go_upto_region 1 with fail
      change Code.wp _ _ _ _ (w.alloc (.cells (rtB s h l n) 26))
      generalize w.alloc (.cells (rtB s h l n) 26) = V0 at *
      obtain ⟨⟨q0, q1, q2, q3⟩, -, hin⟩ := (H0.box 0).four
      go_wp2_with (first | (go_at_call 95; refine (c _ _).mono ?_; rintro e w1 ⟨rfl, rfl⟩) | fail)
      go_ret
      exact ⟨rfl, H0.below⟩
set_option maxHeartbeats 1000000 in
theorem wrL_any (x : Lf) (h1 : x.id.size ≤ 9223372036854775807) (h2 : x.salt.size ≤ 9223372036854775807) (w : World) (hT : TabU w) : Calls Tryz.prog 101 #[x.val] w (Tells (.int .i64 (wrLf x)) w.heap.size w) := by
  have c := fun u hu => mayLeaf_any x h1 h2 u hu
  unfold wrLf
  obtain ⟨p, i, s, h, l⟩ := x
  simp only [Lf.val] at c ⊢
  generalize Lf.may ⟨p, i, s, h, l⟩ = b at *
  have T0 := hT.past (.cells (lfB p i s h l) 28)
  cases b with
  | true =>
    have H0 := (Has.start w).add 28 (lfB p i s h l)
    go_enter Tryz.func101, Tryz.ntmps101
    go_upto_region 1 with fail
    change Code.wp _ _ _ _ (w.alloc (.cells (lfB p i s h l) 28))
    generalize w.alloc (.cells (lfB p i s h l) 28) = V0 at *
    obtain ⟨⟨q0, q1, q2, q3, q4⟩, -, hin⟩ := (H0.box 0).five0
    go_wp2_with (first | (go_at_call 46; refine (c _ T0).mono ?_; rintro e w1 ⟨rfl, j1⟩) | fail)
    go_ret
    exact ⟨rfl, chain H0.below j1⟩
  | false =>
    have H0 := (Has.start w).add 28 (lfB p i s h l)
    go_enter Tryz.func101, Tryz.ntmps101
    go_upto_region 1 with fail
    change Code.wp _ _ _ _ (w.alloc (.cells (lfB p i s h l) 28))
    generalize w.alloc (.cells (lfB p i s h l) 28) = V0 at *
    obtain ⟨⟨q0, q1, q2, q3, q4⟩, -, hin⟩ := (H0.box 0).five0
    go_wp2_with (first | (go_at_call 46; refine (c _ T0).mono ?_; rintro e w1 ⟨rfl, j1⟩) | fail)
    go_ret
    exact ⟨rfl, chain H0.below j1⟩
set_option maxHeartbeats 1000000 in
theorem wrN_any (x : Nd) (hs : x.hash.size ≤ 9223372036854775807) (w : World) : Calls Tryz.prog 153 #[x.val] w (Tells (.int .i64 (wrN x)) w.heap.size w) := by
  obtain ⟨s, h, l⟩ := x
  simp only at hs
  have c := fun b u => long_any b u
  unfold wrN
  simp only
  show Calls _ _ #[.agg (ndB s h l)] _ _
  by_cases h1 : 32 < s.size
  · have h1i : (32 : Int) < (s.size : Int) := by omega
    rw [decide_eq_true h1]
    have H0 := (Has.start w).add 143 (ndB s h l)
    go_enter Tryz.func153, Tryz.ntmps153
    go_upto_region 1 with fail
    change Code.wp _ _ _ _ (w.alloc (.cells (ndB s h l) 143))
    generalize w.alloc (.cells (ndB s h l) 143) = V0 at *
    obtain ⟨q0, q1, q2, -, -, -, hin⟩ := (H0.box 0).three
    go_wp2_with (first | (go_at_call 95; refine (c _ _).mono ?_; rintro e w1 ⟨rfl, rfl⟩) | fail)
    go_ret
    exact ⟨rfl, H0.below⟩
  · have h1i : ¬ ((32 : Int) < (s.size : Int)) := by omega
    rw [decide_eq_false h1]
    have H0 := (Has.start w).add 143 (ndB s h l)
    go_enter Tryz.func153, Tryz.ntmps153
    go_upto_region 1 with fail
    change Code.wp _ _ _ _ (w.alloc (.cells (ndB s h l) 143))
    generalize w.alloc (.cells (ndB s h l) 143) = V0 at *
    obtain ⟨q0, q1, q2, -, -, -, hin⟩ := (H0.box 0).three
    go_wp2_with (first | (go_at_call 95; refine (c _ _).mono ?_; rintro e w1 ⟨rfl, rfl⟩) | fail)
    go_ret
    exact ⟨rfl, H0.below⟩
set_option maxHeartbeats 2000000 in
theorem first_any (a b : Int) (w : World) (g : Nat) (hb : Box w g 47 #[.int .i64 a, .int .i64 b]) : Calls Tryz.prog 110 #[.slice (some ⟨g, 0, none⟩) 2 2] w (Still (.int .i64 (fst2 a b)) w) := by
  obtain ⟨q0, q1, -, -, hin⟩ := hb.two
  obtain ⟨R, hR⟩ : ∃ R, fst2 a b = R := ⟨_, rfl⟩
  rw [hR]
  unfold fst2 at hR
  have HR := hideIt hR
  clear hR
  go_enter Tryz.func110, Tryz.ntmps110
  go_upto_region 3 with fail
  go_loopg [3, 8] 2 (fun gk v i wr => wr = w ∧ ((gk = 2 ∧ v = .int .i64 0 ∧ i = .int .i64 0) ∨ (gk = 1 ∧ v = .int .i64 a ∧ i = .int .i64 1) ∨ (gk = 0 ∧ v = .int .i64 R ∧ i = .int .i64 2)))
  case atStart => exact ⟨rfl, .inl ⟨rfl, rfl, rfl⟩⟩
  case round =>
    obtain ⟨rfl, hrel⟩ := hrel
    rcases hrel with ⟨rfl, rfl, rfl⟩ | ⟨rfl, rfl, rfl⟩ | ⟨rfl, rfl, rfl⟩
    · go_wp2
      go_roundg 1
      case measure => omega
      case rel => exact ⟨rfl, .inr (.inl ⟨rfl, rfl, rfl⟩)⟩
    · by_cases ha : a = 0
      · have e := HR.out
        rw [if_pos (.inl ha)] at e
        subst e
        subst ha
        go_wp2
        go_roundg 0
        case measure => omega
        case rel => exact ⟨rfl, .inr (.inr ⟨rfl, rfl, rfl⟩)⟩
      · by_cases hb3 : b = 130
        · have e := HR.out
          rw [if_pos (.inr hb3)] at e
          subst e
          subst hb3
          have ha2 : (a == 0) = false := by simpa using ha
          clear ha
          go_wp2
          go_roundg 0
          case measure => omega
          case rel => exact ⟨rfl, .inr (.inr ⟨rfl, rfl, rfl⟩)⟩
        · have e := HR.out
          rw [if_neg (by rintro (h | h); exact ha h; exact hb3 h)] at e
          subst e
          have ha2 : (a == 0) = false := by simpa using ha
          have hb2 : (b == 130) = false := by simpa using hb3
          clear ha hb3
          go_wp2
          go_roundg 0
          case measure => omega
          case rel => exact ⟨rfl, .inr (.inr ⟨rfl, rfl, rfl⟩)⟩
    · go_wp2
      go_ret
      exact ⟨rfl, rfl⟩
end Go.Proofs.YtmflhodiibjpnaaGreatDoor
/-
  pack, walked: what is wrong with rows, proofs, entries, ranges, changes, diffs.
-/
namespace Go.Proofs.YtmflhodiibjpnaaGreatDoor
set_option linter.unusedVariables false
set_option linter.unusedSimpArgs false
set_option maxRecDepth 10000
open Go.RowKit

theorem drop_step {α : Type} {l : List α} {k : Nat} {x : α} (h : l[k]? = some x) : l.drop k = x :: l.drop (k + 1) := by
  obtain ⟨hk, e⟩ := List.getElem?_eq_some_iff.1 h
  rw [List.drop_eq_getElem_cons hk, e]
def wrC (x : ChP) : Int := fst2 (wrLf x.old) (wrLf x.new)
def wrCs (l : List ChP) : Int := l.foldl (fun e x => fst2 e (wrC x)) (wrLong (decide (2048 < l.length)))
theorem wrC_bad (x : ChP) : wrC x = if (!x.old.may || !x.new.may) then 130 else 0 := by
  unfold wrC wrLf
  cases x.old.may <;> cases x.new.may <;> rfl
theorem fold_C : ∀ (l : List ChP) (e : Int), e = 0 ∨ e = 3 ∨ e = 130 → l.foldl (fun e x => fst2 e (wrC x)) e = if badC l then 130 else e
  | [], e, _ => by simp [badC]
  | x :: r, e, he => by
    rw [List.foldl_cons, wrC_bad]
    unfold badC
    rw [List.any_cons]
    cases hb : (!x.old.may || !x.new.may) with
    | true =>
      rw [if_pos rfl, Bool.true_or, if_pos rfl]
      have h1 : fst2 e 130 = 130 := by unfold fst2; rw [if_pos (.inr rfl)]
      rw [h1, fold_C r 130 (.inr (.inr rfl))]
      split <;> rfl
    | false =>
      rw [if_neg (by simp), Bool.false_or]
      have h1 : fst2 e 0 = e := by
        unfold fst2
        rcases he with rfl | rfl | rfl <;> rfl
      rw [h1, fold_C r e he]
      rfl
theorem wrCs_told (l : List ChP) : wrCs l = if badC l then 130 else wrLong (decide (2048 < l.length)) := fold_C l _ (by cases decide (2048 < l.length) <;> simp [wrLong])
def wrE (x : EnP) : Int := fst2 (wrLf x.leaf) (wrNs x.sides)
def wrG (x : RgP) : Int := fst2 (wrNs x.ins) (wrNs x.outs)
def wrD (x : DfP) : Int := fst2 (wrCs x.chs) (wrNs x.fr)
set_option maxHeartbeats 4000000 in
theorem wrNs_any (A : Option Addr) (c k : Nat) (l : List Nd) (hl : l.length ≤ 9223372036854775807) (hs : ∀ x ∈ l, x.hash.size ≤ 9223372036854775807) (w : World) (hR : ndS.Row w w.heap.size A l) (hK : IsNd w k) :
    Calls Tryz.prog 150 #[.slice A l.length c, .pointer (some ⟨k, 0, none⟩)] w (Tells (.int .i64 (wrNs l)) w.heap.size w) := by
  have cL := fun b u => long_any b u
  obtain ⟨R, hR0⟩ : ∃ R, wrNs l = R := ⟨_, rfl⟩
  rw [hR0]
  unfold wrNs at hR0
  have HR := hideIt hR0
  clear hR0
  obtain ⟨N, hN⟩ : ∃ N, l.length = N := ⟨_, rfl⟩
  rw [hN] at hl ⊢
  obtain ⟨b0, hb0⟩ : ∃ b, decide (2048 < N) = b := ⟨_, rfl⟩
  have HR : Hid (l.foldl (fun e x => fst2 e (wrN x)) (wrLong b0) = R) := hideIt (by rw [← hb0, ← hN]; exact HR.out)
  have hbi : decide ((2048 : Int) < (N : Int)) = b0 := by rw [← hb0]; exact decide_eq_decide.2 (by omega)
  clear hb0
  go_enter Tryz.func150, Tryz.ntmps150
  go_upto_region 3 with (first | (go_at_call 95; refine (cL _ _).mono ?_; rintro e w1 ⟨rfl, rfl⟩) | fail)
  have L0 := Below.refl w.heap.size w
  go_loopg [4, 13] N (fun gk v i wr => ∃ (k : Nat) (e : Int), k ≤ N ∧ N - k ≤ gk ∧ v = .int .i64 e ∧ i = .int .i64 k ∧ Hid ((l.drop k).foldl (fun e x => fst2 e (wrN x)) e = R) ∧ Below w.heap.size w wr)
  case atStart => exact ⟨0, _, Nat.zero_le _, by omega, rfl, rfl, HR, L0⟩
  case round =>
    obtain ⟨k', e0, hk, hgk, rfl, rfl, HE, hb⟩ := hrel
    have HG := hideIt hgk
    clear hgk L0 HR
    by_cases hlt : k' < N
    · obtain ⟨x, hx⟩ : ∃ x, l[k']? = some x := ⟨_, List.getElem?_eq_getElem (by omega)⟩
      have hlti : (k' : Int) < (N : Int) := by omega
      obtain ⟨ad, hA, hin, p0, p1, p2⟩ := nd_get ((hR.call hb).more hb.size) hx
      subst hA
      have hm := hs _ (List.mem_of_getElem? hx)
      have H0 := (Has.start wr).add 143 (ndB x.hash x.h x.l)
      have K0 := (hK.call hb).call H0.below
      have c1 := fun u => wrN_any x hm u
      have he := HE.out
      rw [drop_step hx, List.foldl_cons] at he
      obtain ⟨s, hh, q⟩ := x
      simp only [Nd.val] at c1 H0 K0 p0 p1 p2
      generalize wrN ⟨s, hh, q⟩ = e1 at *
      have cF := fun u g hu => first_any e0 e1 u g hu
      obtain ⟨e2, he2⟩ : ∃ e2, fst2 e0 e1 = e2 := ⟨_, rfl⟩
      rw [he2] at cF he
      have HE2 := hideIt he
      clear hx hm he HE he2
      go_upto_region 5 with fail
      change Code.wp _ _ _ _ (wr.alloc (.cells (ndB s hh q) 143))
      generalize wr.alloc (.cells (ndB s hh q) 143) = V0 at *
      clear p0 p1 p2 hin
      obtain ⟨q0, q1, q2, -, -, -, hin⟩ := (H0.box 0).three
      obtain ⟨⟨f0, f1, f2, f3⟩, -, hin3⟩ := Box.four K0
      go_wp2_with (first
        | (go_at_call 153; refine (c1 _).mono ?_; rintro e w2 ⟨rfl, j2⟩)
        | (go_at_call 110; refine (cF _ _ (Box.made w2 _ _)).mono ?_; rintro e w3 ⟨rfl, rfl⟩)
        | fail)
      go_roundg (N - (k' + 1))
      case measure => have := HG.out; omega
      case rel => exact ⟨k' + 1, e2, by omega, Nat.le_refl _, rfl, by go_num, HE2, chainA (chain hb (H0.call j2).below) _⟩
    · have e : k' = N := by omega
      subst e
      have he := HE.out
      rw [List.drop_of_length_le (by omega), List.foldl_nil] at he
      subst he
      go_wp2
      go_ret
      exact ⟨rfl, hb⟩
end Go.Proofs.YtmflhodiibjpnaaGreatDoor
/-
  pack, walked: what is wrong with proofs, entries, ranges, changes, rows of these, diffs.
-/
namespace Go.Proofs.YtmflhodiibjpnaaGreatDoor
set_option linter.unusedVariables false
set_option linter.unusedSimpArgs false
set_option maxRecDepth 10000
open Go.RowKit

theorem IsNr.nd {w : World} {c k : Nat} (h : IsNr w c k) : IsNd w k := h.2
theorem IsPr.nr {w : World} {c s k : Nat} (h : IsPr w c s k) : IsNr w s k := h.2
theorem IsCh.lf {w : World} {c a : Nat} (h : IsCh w c a) : IsLf w a := h.2
theorem IsCr.ch {w : World} {c k a : Nat} (h : IsCr w c k a) : IsCh w k a := h.2
/-- Sizes of leaves, nodes that are looked at. -/
def LfFit (x : Lf) : Prop := x.id.size ≤ 9223372036854775807 ∧ x.salt.size ≤ 9223372036854775807
def NsFit (l : List Nd) : Prop := l.length ≤ 9223372036854775807 ∧ ∀ x ∈ l, x.hash.size ≤ 9223372036854775807
def CsFit (l : List ChP) : Prop := l.length ≤ 9223372036854775807 ∧ ∀ x ∈ l, LfFit x.old ∧ LfFit x.new
set_option maxHeartbeats 1000000 in
theorem wrP_any (pos : Int) (A : Option Addr) (c s k : Nat) (l : List Nd) (hl : NsFit l) (w : World) (hR : ndS.Row w w.heap.size A l) (hK : IsNr w s k) :
    Calls Tryz.prog 147 #[.agg #[.int .u64 pos, .slice A l.length c], .pointer (some ⟨s, 0, none⟩)] w (Tells (.int .i64 (wrNs l)) w.heap.size w) := by
  have cN := fun u hu hv => wrNs_any A c k l hl.1 hl.2 u hu hv
  generalize l.length = N at *
  generalize wrNs l = R at *
  have H0 := (Has.start w).add 31 (#[.int .u64 pos, .slice A N c])
  go_enter Tryz.func147, Tryz.ntmps147
  go_upto_region 1 with fail
  change Code.wp _ _ _ _ (w.alloc (.cells (#[.int .u64 pos, .slice A N c]) 31))
  generalize w.alloc (.cells (#[.int .u64 pos, .slice A N c]) 31) = V0 at *
  have K0 := hK.call H0.below
  obtain ⟨q0, q1, -, -, hin⟩ := (H0.box 0).two
  obtain ⟨⟨f0, f1, f2, f3⟩, -, hin3⟩ := Box.four K0.1
  go_wp2_with (first | (go_at_call 150; refine (cN _ (hR.on H0.below) K0.2).mono ?_; rintro e w1 ⟨rfl, j1⟩) | fail)
  go_ret
  exact ⟨rfl, chain H0.below j1⟩
set_option maxHeartbeats 2000000 in
theorem wrG_any (x : RgP) (A B : Option Addr) (c d s k : Nat) (hl : NsFit x.ins) (hm : NsFit x.outs) (w : World) (hR : ndS.Row w w.heap.size A x.ins) (hS : ndS.Row w w.heap.size B x.outs) (hK : IsNr w s k) :
    Calls Tryz.prog 115 #[.agg (rgB x.a x.b A x.ins.length c B x.outs.length d), .pointer (some ⟨s, 0, none⟩)] w (Tells (.int .i64 (wrG x)) w.heap.size w) := by
  obtain ⟨a, b, l, m⟩ := x
  simp only at hl hm hR hS
  have c1 := fun u hu hv => wrNs_any A c k l hl.1 hl.2 u hu hv
  have c2 := fun u hu hv => wrNs_any B d k m hm.1 hm.2 u hu hv
  have cF := fun u g hu => first_any (wrNs l) (wrNs m) u g hu
  unfold wrG
  simp only
  generalize fst2 (wrNs l) (wrNs m) = R at *
  generalize wrNs l = e1 at *
  generalize wrNs m = e2 at *
  generalize l.length = N at *
  generalize m.length = M at *
  have H0 := (Has.start w).add 35 (rgB a b A N c B M d)
  go_enter Tryz.func115, Tryz.ntmps115
  go_upto_region 1 with fail
  change Code.wp _ _ _ _ (w.alloc (.cells (rgB a b A N c B M d) 35))
  generalize w.alloc (.cells (rgB a b A N c B M d) 35) = V0 at *
  have fact : ∀ u, Below V0.heap.size V0 u → (u.cell? ⟨w.heap.size, 2, none⟩ = some (.slice A N c) ∧ u.cell? ⟨w.heap.size, 3, none⟩ = some (.slice B M d)) ∧ u.cell? ⟨s, 3, none⟩ = some (fn1 150 k) := fun u hu => by
    obtain ⟨⟨q0, q1, q2, q3⟩, -, -⟩ := ((H0.call hu).box 0).four
    exact ⟨⟨q2, q3⟩, (hK.call (H0.call hu).below).1.read 3⟩
  go_region_held3 (fun u => Below V0.heap.size V0 u ∧ ((u.cell? ⟨w.heap.size, 2, none⟩ = some (.slice A N c) ∧ u.cell? ⟨w.heap.size, 3, none⟩ = some (.slice B M d)) ∧ u.cell? ⟨s, 3, none⟩ = some (fn1 150 k)))
    (first | exact on_start fact | exact on_call fact (by assumption) (by assumption) | exact on_past fact (by assumption) _ | with_reducible assumption | fail)
    (first
      | (go_at_call 150; (with_reducible refine (c1 _ (hR.on (H0.call (on_low (by assumption))).below) (hK.call (H0.call (on_low (by assumption))).below).nd).mono ?_); rintro e v1 ⟨rfl, j1⟩)
      | (go_at_call 150; (with_reducible refine (c2 _ (hS.on (H0.call (on_low (by assumption))).below) (hK.call (H0.call (on_low (by assumption))).below).nd).mono ?_); rintro e v2 ⟨rfl, j2⟩)
      | (go_at_call 110; refine (cF _ _ (Box.made _ _ _)).mono ?_; rintro e v3 ⟨rfl, rfl⟩)
      | fail)
  all_goals go_wp2
  all_goals go_ret
  all_goals exact ⟨rfl, (H0.call (on_low (by assumption))).below⟩
end Go.Proofs.YtmflhodiibjpnaaGreatDoor
/-
  pack, walked: what is wrong with entries, changes, rows of these, diffs.
-/
namespace Go.Proofs.YtmflhodiibjpnaaGreatDoor
set_option linter.unusedVariables false
set_option linter.unusedSimpArgs false
set_option maxRecDepth 10000
open Go.RowKit

set_option maxHeartbeats 4000000 in
theorem wrE_any (x : EnP) (hx : LfFit x.leaf) (A : Option Addr) (c a p s k : Nat) (hl : NsFit x.sides) (w : World) (hT : TabU w) (hR : ndS.Row w w.heap.size A x.sides) (hA : IsLf w a) (hK : IsPr w p s k) :
    Calls Tryz.prog 109 #[.agg (enB x.leaf.pad x.leaf.id x.leaf.salt x.leaf.h x.leaf.l x.pos A x.sides.length c), .pointer (some ⟨a, 0, none⟩), .pointer (some ⟨p, 0, none⟩)] w (Tells (.int .i64 (wrE x)) w.heap.size w) := by
  obtain ⟨⟨xp, xi, xs, xh, xl⟩, pos, l⟩ := x
  simp only at hx hl hR
  have c1 := fun u hu => wrL_any ⟨xp, xi, xs, xh, xl⟩ hx.1 hx.2 u hu
  have c2 := fun u hu hv => wrP_any pos A c s k l hl u hu hv
  unfold wrE
  simp only
  have cF := fun u g hu => first_any (wrLf ⟨xp, xi, xs, xh, xl⟩) (wrNs l) u g hu
  generalize fst2 (wrLf ⟨xp, xi, xs, xh, xl⟩) (wrNs l) = R at *
  generalize wrLf ⟨xp, xi, xs, xh, xl⟩ = e1 at *
  generalize wrNs l = e2 at *
  simp only [Lf.val] at c1
  generalize l.length = N at *
  have H0 := (Has.start w).add 33 (enB xp xi xs xh xl pos A N c)
  go_enter Tryz.func109, Tryz.ntmps109
  go_upto_region 1 with fail
  change Code.wp _ _ _ _ (w.alloc (.cells (enB xp xi xs xh xl pos A N c) 33))
  generalize w.alloc (.cells (enB xp xi xs xh xl pos A N c) 33) = V0 at *
  have fact : ∀ u, Below V0.heap.size V0 u → (u.cell? ⟨w.heap.size, 0, none⟩ = some (.bool xp) ∧ u.cell? ⟨w.heap.size, 1, none⟩ = some (.string xi) ∧ u.cell? ⟨w.heap.size, 2, none⟩ = some (.string xs) ∧ u.cell? ⟨w.heap.size, 3, none⟩ = some (.int .u64 xh) ∧ u.cell? ⟨w.heap.size, 4, none⟩ = some (.int .u64 xl)) ∧
      (u.cell? ⟨w.heap.size, 5, none⟩ = some (.int .u64 pos) ∧ u.cell? ⟨w.heap.size, 6, none⟩ = some (.slice A N c)) ∧ u.cell? ⟨a, 3, none⟩ = some (fn0 101) ∧ u.cell? ⟨p, 3, none⟩ = some (fn1 147 s) := fun u hu => by
    have hb := (H0.call hu).box 0
    have hv := H0.call hu
    exact ⟨⟨hb.read 0, hb.read 1, hb.read 2, hb.read 3, hb.read 4⟩, ⟨hb.read 5, hb.read 6⟩, Box.read (hA.call hv.below) 3, (hK.call hv.below).1.read 3⟩
  go_region_held3 (fun u => Below V0.heap.size V0 u ∧ ((u.cell? ⟨w.heap.size, 0, none⟩ = some (.bool xp) ∧ u.cell? ⟨w.heap.size, 1, none⟩ = some (.string xi) ∧ u.cell? ⟨w.heap.size, 2, none⟩ = some (.string xs) ∧ u.cell? ⟨w.heap.size, 3, none⟩ = some (.int .u64 xh) ∧ u.cell? ⟨w.heap.size, 4, none⟩ = some (.int .u64 xl)) ∧
      (u.cell? ⟨w.heap.size, 5, none⟩ = some (.int .u64 pos) ∧ u.cell? ⟨w.heap.size, 6, none⟩ = some (.slice A N c)) ∧ u.cell? ⟨a, 3, none⟩ = some (fn0 101) ∧ u.cell? ⟨p, 3, none⟩ = some (fn1 147 s)))
    (first | exact on_start fact | exact on_call fact (by assumption) (by assumption) | exact on_past fact (by assumption) _ | with_reducible assumption | fail)
    (first
      | (go_at_call 101; (with_reducible refine (c1 _ (hT.call (H0.call (on_low (by assumption))).below)).mono ?_); rintro e v1 ⟨rfl, j1⟩)
      | (go_at_call 147; (with_reducible refine (c2 _ (hR.on (H0.call (on_low (by assumption))).below) (hK.call (H0.call (on_low (by assumption))).below).nr).mono ?_); rintro e v2 ⟨rfl, j2⟩)
      | (go_at_call 110; refine (cF _ _ (Box.made _ _ _)).mono ?_; rintro e v3 ⟨rfl, rfl⟩)
      | fail)
  all_goals go_wp2
  all_goals go_ret
  all_goals exact ⟨rfl, (H0.call (on_low (by assumption))).below⟩
set_option maxHeartbeats 4000000 in
theorem wrC_any (x : ChP) (hx : LfFit x.old ∧ LfFit x.new) (a : Nat) (w : World) (hT : TabU w) (hA : IsLf w a) :
    Calls Tryz.prog 159 #[.agg (chA x.pos x.old.pad x.old.id x.old.salt x.old.h x.old.l x.new.pad x.new.id x.new.salt x.new.h x.new.l), .pointer (some ⟨a, 0, none⟩)] w (Tells (.int .i64 (wrC x)) w.heap.size w) := by
  obtain ⟨pos, ⟨xp, xi, xs, xh, xl⟩, ⟨yp, yi, ys, yh, yl⟩⟩ := x
  obtain ⟨hx, hy⟩ := hx
  simp only at hx hy
  have c1 := fun u hu => wrL_any ⟨xp, xi, xs, xh, xl⟩ hx.1 hx.2 u hu
  have c2 := fun u hu => wrL_any ⟨yp, yi, ys, yh, yl⟩ hy.1 hy.2 u hu
  unfold wrC
  simp only
  have cF := fun u g hu => first_any (wrLf ⟨xp, xi, xs, xh, xl⟩) (wrLf ⟨yp, yi, ys, yh, yl⟩) u g hu
  generalize fst2 (wrLf ⟨xp, xi, xs, xh, xl⟩) (wrLf ⟨yp, yi, ys, yh, yl⟩) = R at *
  generalize wrLf ⟨xp, xi, xs, xh, xl⟩ = e1 at *
  generalize wrLf ⟨yp, yi, ys, yh, yl⟩ = e2 at *
  simp only [Lf.val] at c1 c2
  have H0 := (Has.start w).add 103 (chA pos xp xi xs xh xl yp yi ys yh yl)
  go_enter Tryz.func159, Tryz.ntmps159
  go_upto_region 1 with fail
  change Code.wp _ _ _ _ (w.alloc (.cells (chA pos xp xi xs xh xl yp yi ys yh yl) 103))
  generalize w.alloc (.cells (chA pos xp xi xs xh xl yp yi ys yh yl) 103) = V0 at *
  have fact : ∀ u, Below V0.heap.size V0 u → (u.cell? ⟨w.heap.size, 1, none⟩ = some (.bool xp) ∧ u.cell? ⟨w.heap.size, 2, none⟩ = some (.string xi) ∧ u.cell? ⟨w.heap.size, 3, none⟩ = some (.string xs) ∧ u.cell? ⟨w.heap.size, 4, none⟩ = some (.int .u64 xh) ∧ u.cell? ⟨w.heap.size, 5, none⟩ = some (.int .u64 xl)) ∧
      (u.cell? ⟨w.heap.size, 6, none⟩ = some (.bool yp) ∧ u.cell? ⟨w.heap.size, 7, none⟩ = some (.string yi) ∧ u.cell? ⟨w.heap.size, 8, none⟩ = some (.string ys) ∧ u.cell? ⟨w.heap.size, 9, none⟩ = some (.int .u64 yh) ∧ u.cell? ⟨w.heap.size, 10, none⟩ = some (.int .u64 yl)) ∧ u.cell? ⟨a, 3, none⟩ = some (fn0 101) := fun u hu => by
    have hv := H0.call hu
    obtain ⟨q0, q1, q2⟩ := (hv.box 0).eleven
    exact ⟨q1, q2, Box.read (hA.call hv.below) 3⟩
  go_region_held3 (fun u => Below V0.heap.size V0 u ∧ ((u.cell? ⟨w.heap.size, 1, none⟩ = some (.bool xp) ∧ u.cell? ⟨w.heap.size, 2, none⟩ = some (.string xi) ∧ u.cell? ⟨w.heap.size, 3, none⟩ = some (.string xs) ∧ u.cell? ⟨w.heap.size, 4, none⟩ = some (.int .u64 xh) ∧ u.cell? ⟨w.heap.size, 5, none⟩ = some (.int .u64 xl)) ∧
      (u.cell? ⟨w.heap.size, 6, none⟩ = some (.bool yp) ∧ u.cell? ⟨w.heap.size, 7, none⟩ = some (.string yi) ∧ u.cell? ⟨w.heap.size, 8, none⟩ = some (.string ys) ∧ u.cell? ⟨w.heap.size, 9, none⟩ = some (.int .u64 yh) ∧ u.cell? ⟨w.heap.size, 10, none⟩ = some (.int .u64 yl)) ∧ u.cell? ⟨a, 3, none⟩ = some (fn0 101)))
    (first | exact on_start fact | exact on_call fact (by assumption) (by assumption) | exact on_past fact (by assumption) _ | with_reducible assumption | fail)
    (first
      | (go_at_call 101; (with_reducible refine (c1 _ (hT.call (H0.call (on_low (by assumption))).below)).mono ?_); rintro e v1 ⟨rfl, j1⟩)
      | (go_at_call 101; (with_reducible refine (c2 _ (hT.call (H0.call (on_low (by assumption))).below)).mono ?_); rintro e v2 ⟨rfl, j2⟩)
      | (go_at_call 110; refine (cF _ _ (Box.made _ _ _)).mono ?_; rintro e v3 ⟨rfl, rfl⟩)
      | fail)
  all_goals go_wp2
  all_goals go_ret
  all_goals exact ⟨rfl, (H0.call (on_low (by assumption))).below⟩
set_option maxHeartbeats 4000000 in
theorem wrCs_any (A : Option Addr) (c k a : Nat) (l : List ChP) (hl : CsFit l) (w : World) (hT : TabU w) (hR : chS.Row w w.heap.size A l) (hK : IsCh w k a) :
    Calls Tryz.prog 156 #[.slice A l.length c, .pointer (some ⟨k, 0, none⟩)] w (Tells (.int .i64 (wrCs l)) w.heap.size w) := by
  have hs := hl.2
  have hl := hl.1
  have cL := fun b u => long_any b u
  obtain ⟨R, hR0⟩ : ∃ R, wrCs l = R := ⟨_, rfl⟩
  rw [hR0]
  unfold wrCs at hR0
  have HR := hideIt hR0
  clear hR0
  obtain ⟨N, hN⟩ : ∃ N, l.length = N := ⟨_, rfl⟩
  rw [hN] at hl ⊢
  obtain ⟨b0, hb0⟩ : ∃ b, decide (2048 < N) = b := ⟨_, rfl⟩
  have HR : Hid (l.foldl (fun e x => fst2 e (wrC x)) (wrLong b0) = R) := hideIt (by rw [← hb0, ← hN]; exact HR.out)
  have hbi : decide ((2048 : Int) < (N : Int)) = b0 := by rw [← hb0]; exact decide_eq_decide.2 (by omega)
  clear hb0
  go_enter Tryz.func156, Tryz.ntmps156
  go_upto_region 3 with (first | (go_at_call 95; refine (cL _ _).mono ?_; rintro e w1 ⟨rfl, rfl⟩) | fail)
  have L0 := Below.refl w.heap.size w
  go_loopg [4, 13] N (fun gk v i wr => ∃ (k : Nat) (e : Int), k ≤ N ∧ N - k ≤ gk ∧ v = .int .i64 e ∧ i = .int .i64 k ∧ Hid ((l.drop k).foldl (fun e x => fst2 e (wrC x)) e = R) ∧ Below w.heap.size w wr)
  case atStart => exact ⟨0, _, Nat.zero_le _, by omega, rfl, rfl, HR, L0⟩
  case round =>
    obtain ⟨k', e0, hk, hgk, rfl, rfl, HE, hb⟩ := hrel
    have HG := hideIt hgk
    clear hgk L0 HR
    by_cases hlt : k' < N
    · obtain ⟨x, hx⟩ : ∃ x, l[k']? = some x := ⟨_, List.getElem?_eq_getElem (by omega)⟩
      have hlti : (k' : Int) < (N : Int) := by omega
      obtain ⟨ad, hA, hin, p0, ⟨p1, p2, p3, p4, p5⟩, p6, p7, p8, p9, p10⟩ := ch_get ((hR.call hb).more hb.size) hx
      subst hA
      have hm := hs _ (List.mem_of_getElem? hx)
      have H0 := (Has.start wr).add 103 (chA x.pos x.old.pad x.old.id x.old.salt x.old.h x.old.l x.new.pad x.new.id x.new.salt x.new.h x.new.l)
      have K0 := (hK.call hb).call H0.below
      have T0 := (hT.call hb).call H0.below
      have c1 := fun u hu hv => wrC_any x hm a u hu hv
      have he := HE.out
      rw [drop_step hx, List.foldl_cons] at he
      obtain ⟨pos, ⟨xp, xi, xs, xh, xl⟩, ⟨yp, yi, ys, yh, yl⟩⟩ := x
      simp only at c1 H0 K0 T0 p0 p1 p2 p3 p4 p5 p6 p7 p8 p9 p10
      generalize wrC ⟨pos, ⟨xp, xi, xs, xh, xl⟩, ⟨yp, yi, ys, yh, yl⟩⟩ = e1 at *
      have cF := fun u g hu => first_any e0 e1 u g hu
      obtain ⟨e2, he2⟩ : ∃ e2, fst2 e0 e1 = e2 := ⟨_, rfl⟩
      rw [he2] at cF he
      have HE2 := hideIt he
      clear hx hm he HE he2
      go_upto_region 5 with fail
      change Code.wp _ _ _ _ (wr.alloc (.cells (chA pos xp xi xs xh xl yp yi ys yh yl) 103))
      generalize wr.alloc (.cells (chA pos xp xi xs xh xl yp yi ys yh yl) 103) = V0 at *
      clear p0 p1 p2 p3 p4 p5 p6 p7 p8 p9 p10 hin
      obtain ⟨q0, ⟨q1, q2, q3, q4, q5⟩, q6, q7, q8, q9, q10⟩ := (H0.box 0).eleven
      have hin := (H0.box 0).inside
      obtain ⟨⟨f0, f1, f2, f3⟩, -, hin3⟩ := Box.four K0.1
      go_wp2_with (first
        | (go_at_call 159; refine (c1 _ T0 K0.2).mono ?_; rintro e w2 ⟨rfl, j2⟩)
        | (go_at_call 110; refine (cF _ _ (Box.made w2 _ _)).mono ?_; rintro e w3 ⟨rfl, rfl⟩)
        | fail)
      go_roundg (N - (k' + 1))
      case measure => have := HG.out; omega
      case rel => exact ⟨k' + 1, e2, by omega, Nat.le_refl _, rfl, by go_num, HE2, chainA (chain hb (H0.call j2).below) _⟩
    · have e : k' = N := by omega
      subst e
      have he := HE.out
      rw [List.drop_of_length_le (by omega), List.foldl_nil] at he
      subst he
      go_wp2
      go_ret
      exact ⟨rfl, hb⟩
set_option maxHeartbeats 2000000 in
theorem wrD_any (x : DfP) (A B : Option Addr) (c d q n i a k : Nat) (hl : CsFit x.chs) (hm : NsFit x.fr) (w : World) (hT : TabU w) (hR : chS.Row w w.heap.size A x.chs) (hS : ndS.Row w w.heap.size B x.fr) (hC : IsCr w q i a) (hK : IsNr w n k) :
    Calls Tryz.prog 120 #[.agg (dfB A x.chs.length c B x.fr.length d), .pointer (some ⟨q, 0, none⟩), .pointer (some ⟨n, 0, none⟩)] w (Tells (.int .i64 (wrD x)) w.heap.size w) := by
  obtain ⟨l, m⟩ := x
  simp only at hl hm hR hS
  have c1 := fun u hu hv hv2 => wrCs_any A c i a l hl u hu hv hv2
  have c2 := fun u hu hv => wrNs_any B d k m hm.1 hm.2 u hu hv
  have cF := fun u g hu => first_any (wrCs l) (wrNs m) u g hu
  unfold wrD
  simp only
  generalize fst2 (wrCs l) (wrNs m) = R at *
  generalize wrCs l = e1 at *
  generalize wrNs m = e2 at *
  generalize l.length = N at *
  generalize m.length = M at *
  have H0 := (Has.start w).add 38 (dfB A N c B M d)
  go_enter Tryz.func120, Tryz.ntmps120
  go_upto_region 1 with fail
  change Code.wp _ _ _ _ (w.alloc (.cells (dfB A N c B M d) 38))
  generalize w.alloc (.cells (dfB A N c B M d) 38) = V0 at *
  have fact : ∀ u, Below V0.heap.size V0 u → (u.cell? ⟨w.heap.size, 0, none⟩ = some (.slice A N c) ∧ u.cell? ⟨w.heap.size, 1, none⟩ = some (.slice B M d)) ∧ u.cell? ⟨q, 3, none⟩ = some (fn1 156 i) ∧ u.cell? ⟨n, 3, none⟩ = some (fn1 150 k) := fun u hu => by
    have hv := H0.call hu
    obtain ⟨q0, q1, -, -, -⟩ := (hv.box 0).two
    exact ⟨⟨q0, q1⟩, (hC.call hv.below).1.read 3, (hK.call hv.below).1.read 3⟩
  go_region_held3 (fun u => Below V0.heap.size V0 u ∧ ((u.cell? ⟨w.heap.size, 0, none⟩ = some (.slice A N c) ∧ u.cell? ⟨w.heap.size, 1, none⟩ = some (.slice B M d)) ∧ u.cell? ⟨q, 3, none⟩ = some (fn1 156 i) ∧ u.cell? ⟨n, 3, none⟩ = some (fn1 150 k)))
    (first | exact on_start fact | exact on_call fact (by assumption) (by assumption) | exact on_past fact (by assumption) _ | with_reducible assumption | fail)
    (first
      | (go_at_call 156; (with_reducible refine (c1 _ (hT.call (H0.call (on_low (by assumption))).below) (hR.on (H0.call (on_low (by assumption))).below) (hC.call (H0.call (on_low (by assumption))).below).ch).mono ?_); rintro e v1 ⟨rfl, j1⟩)
      | (go_at_call 150; (with_reducible refine (c2 _ (hS.on (H0.call (on_low (by assumption))).below) (hK.call (H0.call (on_low (by assumption))).below).nd).mono ?_); rintro e v2 ⟨rfl, j2⟩)
      | (go_at_call 110; refine (cF _ _ (Box.made _ _ _)).mono ?_; rintro e v3 ⟨rfl, rfl⟩)
      | fail)
  all_goals go_wp2
  all_goals go_ret
  all_goals exact ⟨rfl, (H0.call (on_low (by assumption))).below⟩
end Go.Proofs.YtmflhodiibjpnaaGreatDoor
