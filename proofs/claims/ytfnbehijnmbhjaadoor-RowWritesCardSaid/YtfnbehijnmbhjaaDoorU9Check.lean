/-
  Package lines' Check, walked: the first line with which something is wrong.
-/
import Derived.Test.YtfnbehijnmbhjaaDoorU9All
namespace Go.Proofs.YtfnbehijnmbhjaaDoor
set_option linter.unusedVariables false
set_option linter.unusedSimpArgs false
set_option maxRecDepth 10000
open Go.RowKit Go.Shelf
attribute [local go_sem] Oper.semAt_some

/-- The first line with which something is wrong: its number, and what. -/
def firstW : List (Nat × List UInt8) → Nat × Nat
  | [] => (0, 0)
  | x :: r => if wrongL x.2 = 0 then firstW r else (x.1, wrongL x.2)
theorem firstW_good (pre l : List (Nat × List UInt8)) (h : ∀ x ∈ pre, wrongL x.2 = 0) : firstW (pre ++ l) = firstW l := by
  induction pre with
  | nil => rfl
  | cons x r ih =>
    rw [List.cons_append, firstW, if_pos (h x (by simp)), ih fun y hy => h y (by simp [hy])]
theorem firstW_hit (pre l : List (Nat × List UInt8)) (x : Nat × List UInt8) (h : ∀ x ∈ pre, wrongL x.2 = 0) (hx : wrongL x.2 ≠ 0) : firstW (pre ++ x :: l) = (x.1, wrongL x.2) := by
  rw [firstW_good pre _ h, firstW, if_neg hx]
theorem wrongL_cases (l : List UInt8) : wrongL l = 0 ∨ wrongL l = 90 ∨ wrongL l = 91 := by
  unfold wrongL
  split
  · simp
  · split <;> simp
/-- Nothing is wrong with these. -/
def AllOk (pre : List (Nat × List UInt8)) : Prop := ∀ x ∈ pre, wrongL x.2 = 0
theorem AllOk.snoc {pre : List (Nat × List UInt8)} {x : Nat × List UInt8} (h : AllOk pre) (hx : wrongL x.2 = 0) : AllOk (pre ++ [x]) := fun y hy => by
  rcases List.mem_append.1 hy with hy | hy
  · exact h y hy
  · obtain rfl := List.mem_singleton.1 hy; exact hx
/-- The two results' cells. -/
def TwoR (w : World) (a b : Nat) (W : World) : Prop :=
  (Box W w.heap.size 3 #[.int .i64 a] ∧ Box W (w.heap.size + 1) 27 #[.int .i64 b]) ∧ Below w.heap.size w W
theorem TwoR.call {w W W' : World} {a b : Nat} (h : TwoR w a b W) (hb : Below W.heap.size W W') : TwoR w a b W' := ⟨⟨h.1.1.call hb, h.1.2.call hb⟩, chain h.2 hb⟩
theorem twoR_own {β : Type} (w : World) (f g : β → Nat) (D : Nat) (hD : w.heap.size ≤ D) : OwnFrom D (fun s W => TwoR w (f s) (g s) W) :=
  OwnFrom.and (OwnFrom.and (Own.from (box_own _ _ (fun s => #[.int .i64 (f s)])) _) (Own.from (box_own _ _ (fun s => #[.int .i64 (g s)])) _)) (ownFrom_below (Nat.le_refl _) hD)

set_option maxRecDepth 100000 in
set_option maxHeartbeats 4000000 in
theorem check_any (s : ByteArray) (hs : s.size ≤ 1000000) (w : World) :
    Calls Tryd.prog 63 #[.string s] w (Tells (.tuple #[.int .i64 (firstW (linesL s.data.toList)).1, .int .i64 (firstW (linesL s.data.toList)).2]) w.heap.size w) := by
  obtain ⟨all, hall⟩ : ∃ all, linesL s.data.toList = all := ⟨_, rfl⟩
  have hseq := fun (n : Nat) (hn : 1 ≤ n) (B : Nat) (W : World) (h1 : W.cell? ⟨B, 0, none⟩ = some (.string s)) (h2 : B < W.heap.size) => each_stops n hn B s (by omega) W h1 h2
  have cE := fun u => each_any s u
  rw [hall] at hseq ⊢
  clear hall
  refine (callsIn_wide (n := 9)).1 (callsIn_of_wp_marks Tryd.func63 rfl trivial ?_ rfl)
  simp only [Tryd.ntmps63, List.size_toArray, List.length_cons, List.length_nil, Nat.reduceAdd, Nat.reduceSub, Array.replicate_succ, Array.replicate_zero, List.push_toArray, List.append_toArray, List.nil_append, List.cons_append]
  refine wpIn_wide.2 ?_
  go_upto_region 1 with fail
  have T0 : TwoR w 0 0 ((w.alloc (.cells #[.int .i64 0] 3)).alloc (.cells #[.int .i64 0] 27)) :=
    ⟨⟨(Box.made _ _ _).past _, by have h := Box.made (w.alloc (.cells #[.int .i64 0] 3)) 27 #[.int .i64 0]; rw [World.size_alloc] at h; exact h⟩, chainA (chainA (Below.refl _ _) _) _⟩
  have e1 : (w.alloc (.cells #[.int .i64 0] 3)).heap.size = w.heap.size + 1 := by simp
  generalize World.alloc (World.alloc _ _) _ = V at *
  go_wp2_with (first
    | (go_at_call 34; refine (cE _).mono ?_; rintro e w1 ⟨rfl, rfl⟩))
  have T1 := T0.call ((Below.refl _ V).alloc (Nat.le_refl _) (.cells #[.string s] 9))
  have bx := Box.made V 9 #[.string s]
  have hVs : w.heap.size + 1 < V.heap.size := T0.1.2.inside
  have hYs : (V.alloc (.cells #[.string s] 9)).heap.size = V.heap.size + 1 := by simp
  generalize World.alloc V _ = Y at *
  refine (wpIn_wide (n := 9)).1 ?_
  refine wpIn_rangeFunc_ownH (F := Fence.wide) (n := 9) rfl (by decide) (gf := 59) (lb := #[.pointer (some ⟨V.heap.size, 0, none⟩)]) rfl trivial (enters_of Tryd.func59 (by kernel_rfl) rfl)
    (hseq 8 (by decide) V.heap.size Y (bx.read 0) bx.inside) (fun _ _ => trivial)
    (fun W l o o' hl h _ _ => trivial) (Below.refl _ _) (fun _ => rfl)
    (fun pre W => TwoR w 0 0 W ∧ AllOk pre) (fun c pre W => c = .ret ∧ ∃ (q : List (Nat × List UInt8)) (x : Nat × List UInt8), pre = q ++ [x] ∧ AllOk q ∧ wrongL x.2 ≠ 0 ∧ TwoR w x.1 (wrongL x.2) W)
    (OwnFrom.and (twoR_own w (fun _ => 0) (fun _ => 0) _ (by omega)) (fun _ _ _ _ hs _ _ => hs))
    (fun c s W W' row hs hg hr => by
      obtain ⟨hc, q, x, h1, h2, h3, h4⟩ := hs
      exact ⟨hc, q, x, h1, h2, h3, twoR_own (β := Unit) w (fun _ => x.1) (fun _ => wrongL x.2) _ (by omega) () W W' row h4 hg hr⟩)
    ⟨T1, fun x hx => by simp at hx⟩
    (fun x a' W => ∃ Bx, w.heap.size + 1 < Bx ∧ Box W Bx 38 #[.int .i64 x.1, .string (bA x.2), .int .u8 (kindL x.2), .int .i64 (wrongL x.2)] ∧
      a' = { tmps := #[.string s, undef, .pointer (some ⟨w.heap.size, 0, none⟩), .pointer (some ⟨w.heap.size + 1, 0, none⟩), .pointer (some ⟨Bx, 0, none⟩), .string s,
        .func (.func 59) #[] #[.pointer (some ⟨V.heap.size, 0, none⟩)], lineV x, undef, undef, undef, undef, undef, undef, undef], defers := [] })
    ?hAx ?assign ?body ?done ?stop
  case hAx =>
    rintro x a' s W W' row ⟨Bx, h1, h2, h3⟩ hg hr
    exact ⟨Bx, h1, box_own (β := Unit) Bx _ (fun _ => _) () W W' row h2 hg (fun r e => (hr r e).2), h3⟩
  case assign =>
    rintro l pre ⟨k, t⟩ W K ⟨hI, hq⟩ hK
    have hb : w.heap.size + 1 < W.heap.size := hI.1.2.inside
    simp only [lineV] at hK ⊢
    gi_wp2
    exact hK _ _ ((KeepsOthers.alloc _ _).from _) trivial ⟨hI.call ((Below.refl _ W).alloc (Nat.le_refl _) _), hq⟩ ⟨W.heap.size, hb, Box.made _ _ _, rfl⟩
  case body =>
    rintro l pre ⟨k, t⟩ a' W hl ⟨r, hr⟩ ⟨hI, hq⟩ ⟨Bx, hBx, hbox, rfl⟩ hlt
    have r0 : W.cell? ⟨Bx, 0, none⟩ = some (.int .i64 k) := hbox.read 0
    have r3 : W.cell? ⟨Bx, 3, none⟩ = some (.int .i64 (wrongL t)) := hbox.read 3
    have hbi := hbox.inside
    by_cases h0 : wrongL t = 0
    · rw [h0] at r3
      gi_wp2
      exact ⟨KeepsFrom.refl _ _, trivial, hI, hq.snoc h0⟩
    · obtain ⟨A, hA⟩ : ∃ A, wrongL t = A := ⟨_, rfl⟩
      have h0' := h0
      rw [hA] at r3 h0
      have h0i : ¬ ((A : Int) = 0) := by omega
      have i0 := hI.1.1.inside
      have i1 := hI.1.2.inside
      have c0 : W.cell? ⟨w.heap.size, 0, none⟩ = some (.int .i64 0) := hI.1.1.read 0
      have c1 : W.cell? ⟨w.heap.size + 1, 0, none⟩ = some (.int .i64 0) := hI.1.2.read 0
      have f0 := hI.1.1.free 0
      have f1 := hI.1.2.free 0
      have b0 : TwoR w k A (((W.setCell ⟨w.heap.size, 0, none⟩ (.int .i64 k)).setCell ⟨w.heap.size + 1, 0, none⟩ (.int .i64 A)).drew) :=
        ⟨⟨(hI.1.1.wrote 0 (.int .i64 k)).apart (p := ⟨w.heap.size + 1, 0, none⟩) (by simp) _, (hI.1.2.apart (p := ⟨w.heap.size, 0, none⟩) (by simp) _).wrote 0 (.int .i64 A)⟩,
          ((hI.2.setCell (p := ⟨w.heap.size, 0, none⟩) (Nat.le_refl _) _).setCell (p := ⟨w.heap.size + 1, 0, none⟩) (by simp) _).drew⟩
      have k0 : KeepsFrom Y.heap.size W (((W.setCell ⟨w.heap.size, 0, none⟩ (.int .i64 k)).setCell ⟨w.heap.size + 1, 0, none⟩ (.int .i64 A)).drew) :=
        (((KeepsOthers.setCell W _ _).trans (KeepsOthers.setCell _ _ _)).trans (KeepsOthers.drew _)).from _
      have fin_ : KeepsFrom Y.heap.size W (((W.setCell ⟨w.heap.size, 0, none⟩ (.int .i64 k)).setCell ⟨w.heap.size + 1, 0, none⟩ (.int .i64 A)).drew) ∧
          (Code.ret = Code.ret ∧ ∃ (q : List (Nat × List UInt8)) (x : Nat × List UInt8), pre ++ [(k, t)] = q ++ [x] ∧ AllOk q ∧ wrongL x.2 ≠ 0 ∧ TwoR w x.1 (wrongL x.2) (((W.setCell ⟨w.heap.size, 0, none⟩ (.int .i64 k)).setCell ⟨w.heap.size + 1, 0, none⟩ (.int .i64 A)).drew)) :=
        ⟨k0, rfl, pre, (k, t), rfl, hq, h0', by rw [hA]; exact b0⟩
      have FIN := hideIt fin_
      have hmx : Tryd.prog.follows .mixedOrders = true := by kernel_rfl
      clear fin_ b0 k0 hA h0' hq
      gi_wp2
      gi_region_o
      all_goals gi_wp2
      all_goals exact ⟨FIN.out.1, rfl, FIN.out.2.2⟩
  case done =>
    rintro D xs W hD rfl ⟨hI, hq⟩ hK
    have hf : firstW xs = (0, 0) := by have := firstW_good xs [] hq; rw [List.append_nil] at this; exact this
    have i0 := hI.1.1.inside
    have i1 := hI.1.2.inside
    have c0 : W.cell? ⟨w.heap.size, 0, none⟩ = some (.int .i64 0) := hI.1.1.read 0
    have c1 : W.cell? ⟨w.heap.size + 1, 0, none⟩ = some (.int .i64 0) := hI.1.2.read 0
    have f0 := hI.1.1.free 0
    have f1 := hI.1.2.free 0
    have hDw : w.heap.size + 1 < D := by omega
    have b0 : TwoR w 0 0 ((W.setCell ⟨w.heap.size, 0, none⟩ (.int .i64 0)).setCell ⟨w.heap.size + 1, 0, none⟩ (.int .i64 0)) :=
      ⟨⟨(hI.1.1.wrote 0 (.int .i64 0)).apart (p := ⟨w.heap.size + 1, 0, none⟩) (by simp) _, (hI.1.2.apart (p := ⟨w.heap.size, 0, none⟩) (by simp) _).wrote 0 (.int .i64 0)⟩,
        ((hI.2.setCell (p := ⟨w.heap.size, 0, none⟩) (Nat.le_refl _) _).setCell (p := ⟨w.heap.size + 1, 0, none⟩) (by simp) _)⟩
    have hK2 : ((W.setCell ⟨w.heap.size, 0, none⟩ (.int .i64 0)).setCell ⟨w.heap.size + 1, 0, none⟩ (.int .i64 0)).heap[D]? = some (.deferred (some [])) :=
      (Below.heap_setCell _ ⟨w.heap.size + 1, 0, none⟩ _ D (by dsimp only; omega)).trans ((Below.heap_setCell _ ⟨w.heap.size, 0, none⟩ _ D (by dsimp only; omega)).trans hK)
    dsimp only [Exit.inBlock, Exit.then]
    go_wp2
    have T := (twoR_own (β := Unit) w (fun _ => 0) (fun _ => 0) w.heap.size (Nat.le_refl _)).putObj (s := ()) (.deferred none) b0 (by omega : w.heap.size ≤ D) hK2 rfl
    refine ⟨by simp, .inl ⟨_, _, rfl, run_takeDeferred hK2, ?_⟩⟩
    generalize World.putObj _ D _ = Z at *
    have x0 : Z.cell? ⟨w.heap.size, 0, none⟩ = some (.int .i64 0) := T.1.1.read 0
    have x1 : Z.cell? ⟨w.heap.size + 1, 0, none⟩ = some (.int .i64 0) := T.1.2.read 0
    exact ⟨.tuple #[.int .i64 0, .int .i64 0], by simp [results, Tryd.results63, go_sem, x0, x1], by rw [hf]; rfl, T.2⟩
  case stop =>
    rintro D c pre W hD hSp ⟨rfl, q, x, rfl, hq, hx, hT⟩ hK
    obtain ⟨rest, hrest⟩ := hSp
    have hf : firstW all = (x.1, wrongL x.2) := by rw [← hrest, List.append_assoc]; exact firstW_hit q rest x hq hx
    gi_wp2
    have T := (twoR_own (β := Unit) w (fun _ => x.1) (fun _ => wrongL x.2) w.heap.size (Nat.le_refl _)).putObj (s := ()) (.deferred none) hT (by omega : w.heap.size ≤ D) hK rfl
    refine ⟨by simp, .inl ⟨_, _, rfl, run_takeDeferred hK, ?_⟩⟩
    generalize World.putObj _ D _ = Z at *
    have x0 : Z.cell? ⟨w.heap.size, 0, none⟩ = some (.int .i64 x.1) := T.1.1.read 0
    have x1 : Z.cell? ⟨w.heap.size + 1, 0, none⟩ = some (.int .i64 (wrongL x.2)) := T.1.2.read 0
    exact ⟨.tuple #[.int .i64 x.1, .int .i64 (wrongL x.2)], by simp [results, Tryd.results63, go_sem, x0, x1], by rw [hf], T.2⟩
end Go.Proofs.YtfnbehijnmbhjaaDoor
