/-
  (*sha.Sha).take, walked: what a running one becomes of a text, whatever its length.
-/
import Derived.Test.YtkmnfogcocppjaaDoorU5Round
import Derived.Test.YtkmnfogcocppjaaDoorU5Clone
import Derived.Laws.Concat
import Derived.RangeFuncBox
namespace Go.Proofs.YtkmnfogcocppjaaDoor
set_option linter.unusedVariables false
set_option linter.unusedSimpArgs false
set_option maxRecDepth 10000
open Go.RowKit Go.Shelf
attribute [local go_sem] Oper.semAt_some

/-- A state written into a running one. -/
def setS (W : World) (g : Nat) (s : St) : World :=
  let w1 := World.setCell W ⟨g, 1, none⟩ (Value.int .u32 (iv s.a))
  let w2 := World.setCell w1 ⟨g, 2, none⟩ (Value.int .u32 (iv s.b))
  let w3 := World.setCell w2 ⟨g, 3, none⟩ (Value.int .u32 (iv s.c))
  let w4 := World.setCell w3 ⟨g, 4, none⟩ (Value.int .u32 (iv s.d))
  let w5 := World.setCell w4 ⟨g, 5, none⟩ (Value.int .u32 (iv s.e))
  let w6 := World.setCell w5 ⟨g, 6, none⟩ (Value.int .u32 (iv s.f))
  let w7 := World.setCell w6 ⟨g, 7, none⟩ (Value.int .u32 (iv s.g))
  World.setCell w7 ⟨g, 8, none⟩ (Value.int .u32 (iv s.h))
section
variable {w W : World} {g : Nat} {t : TypeId} {x : List Value} {s0 : St} {lf : ByteArray} {n : Int}
theorem shaV_put (x : List Value) (s0 : St) (lf : ByteArray) (n : Int) (k : Nat) (v : B32) (hk : k < 8) : (shaW x s0 lf n).setIfInBounds (k + 1) (.int .u32 (iv v)) = shaW x (s0.put k v) lf n := by
  match k, hk with
  | 0, _ => simp [shaW, St.put]
  | 1, _ => simp [shaW, St.put]
  | 2, _ => simp [shaW, St.put]
  | 3, _ => simp [shaW, St.put]
  | 4, _ => simp [shaW, St.put]
  | 5, _ => simp [shaW, St.put]
  | 6, _ => simp [shaW, St.put]
  | 7, _ => simp [shaW, St.put]
theorem Box.putS (h : Box W g t (shaW x s0 lf n)) (k : Nat) (v : B32) (hk : k < 8) : Box (W.setCell ⟨g, k + 1, none⟩ (.int .u32 (iv v))) g t (shaW x (s0.put k v) lf n) := by
  rw [← shaV_put _ _ _ _ _ _ hk]; exact h.wrote (k + 1) _
theorem Box.wroteS (h : Box W g t (shaW x s0 lf n)) (s : St) : Box (setS W g s) g t (shaW x s lf n) := by
  have h1 := h.putS 0 s.a (by decide)
  have h2 := h1.putS 1 s.b (by decide)
  have h3 := h2.putS 2 s.c (by decide)
  have h4 := h3.putS 3 s.d (by decide)
  have h5 := h4.putS 4 s.e (by decide)
  have h6 := h5.putS 5 s.f (by decide)
  have h7 := h6.putS 6 s.g (by decide)
  have h8 := h7.putS 7 s.h (by decide)
  rw [St.put_all] at h8
  exact h8
theorem But.setS (h : But g w W) (s : St) : But g w (setS W g s) := by
  have h1 := h.set_ 1 (Value.int .u32 (iv s.a))
  have h2 := h1.set_ 2 (Value.int .u32 (iv s.b))
  have h3 := h2.set_ 3 (Value.int .u32 (iv s.c))
  have h4 := h3.set_ 4 (Value.int .u32 (iv s.d))
  have h5 := h4.set_ 5 (Value.int .u32 (iv s.e))
  have h6 := h5.set_ 6 (Value.int .u32 (iv s.f))
  have h7 := h6.set_ 7 (Value.int .u32 (iv s.g))
  exact h7.set_ 8 (Value.int .u32 (iv s.h))
theorem keeps_setS (W : World) (g : Nat) (s : St) : KeepsOthers W (setS W g s) :=
  ((((((((KeepsOthers.setCell W _ _).trans (KeepsOthers.setCell _ _ _)).trans (KeepsOthers.setCell _ _ _)).trans (KeepsOthers.setCell _ _ _)).trans (KeepsOthers.setCell _ _ _)).trans (KeepsOthers.setCell _ _ _)).trans (KeepsOthers.setCell _ _ _)).trans (KeepsOthers.setCell _ _ _))
theorem keeps_below {W' : World} (hb : Below W.heap.size W W') : KeepsOthers W W' := ⟨hb.size, fun k o hk _ => (hb.block k (Array.getElem?_eq_some_iff.1 hk).1).trans hk⟩
end
theorem wrap64_nat (K : Nat) (h : K ≤ 9223372036854775807) : wrap64 (K : Int) = (K : Int) := IntWalk.wrap64_in _ (by omega)
theorem But.putObj {w W : World} {g D : Nat} (h : But g w W) (hD : w.heap.size ≤ D) (o : Obj) : But g w (W.putObj D o) :=
  ⟨h.os, h.tape, h.output, by simpa using h.size, fun k hk hne => (World.putObj_heap_other (by omega)).trans (h.block k hk hne)⟩
/-- Between two rounds. -/
def Mid (T : TypeId) (X : List Value) (w : World) (g : Nat) (st : St) (lf : ByteArray) (n1 : Int) (y : Nat) (pre : List B64) (W : World) : Prop :=
  Box W g T (shaW X (runB st pre) lf n1) ∧ Box W w.heap.size 67 #[.pointer (some ⟨g, 0, none⟩)] ∧ Tab W ∧ But g w W ∧ y < W.heap.size
theorem mid_own (T : TypeId) (X : List Value) (w : World) (g : Nat) (st : St) (lf : ByteArray) (n1 : Int) (y D : Nat) (hD : w.heap.size ≤ D) : OwnFrom D (Mid T X w g st lf n1 y) := by
  rintro pre W W' row ⟨h1, h2, h3, h4, h5⟩ hg hr
  have hrow : ∀ r, row = some r → ∃ o : Obj, W.heap[r]? = some o ∧ o.isCells = false := fun r e => (hr r e).2
  refine ⟨(grownBy_keeps_cells hg hrow h1 rfl).trans h1, (grownBy_keeps_cells hg hrow h2 rfl).trans h2, ⟨Nat.lt_of_lt_of_le h3.1 hg.size, fun i hi => cell_kept (h3.2 i hi) hg hrow⟩, ?_, Nat.lt_of_lt_of_le h5 hg.size⟩
  exact ⟨hg.os.trans h4.os, hg.tape.trans h4.tape, hg.output.trans h4.output, Nat.le_trans h4.size hg.size, fun k hk hne =>
    (hg.block k (Nat.lt_of_lt_of_le hk h4.size) (fun e => by have := (hr k e.symm).1; omega)).trans (h4.block k hk hne)⟩

/-- How much of a text goes to the block that was begun. -/
def fillN (q n : Nat) : Nat := if 64 - q ≤ n then 64 - q else n

set_option maxRecDepth 100000 in
set_option maxHeartbeats 4000000 in
theorem take_walk (T : TypeId) (X : List Value) (t : List UInt8) (lf s : ByteArray) (hlf : lf.data.toList = left t) (n : Int) (hn0 : 0 ≤ n) (hn1 : n < 18446744073709551616) (hs : s.size ≤ 9223372036854775807) (g : Nat) (w : World) (hT : Tab w) (hg0 : g ≠ 2)
    (hbx : Box w g T (shaW X (fin t) lf n)) : Calls Tryd.prog 55 #[.pointer (some ⟨g, 0, none⟩), .string s] w fun e w' =>
      e = .returned (.tuple #[]) ∧ (∃ lg : ByteArray, lg.data.toList = left (t ++ s.data.toList) ∧ Box w' g T (shaW X (fin (t ++ s.data.toList)) lg ((n + s.size) % 18446744073709551616))) ∧ But g w w' := by
  have hq : lf.size < 64 := by
    have := left_lt t
    rw [← hlf] at this
    simpa using this
  obtain ⟨st, hst⟩ : ∃ st, fin t = st := ⟨_, rfl⟩
  obtain ⟨n1, hn⟩ : ∃ n1, IntKind.u64.wrap (n + (s.size : Int)) = n1 := ⟨_, rfl⟩
  have hnm : (n + (s.size : Int)) % 18446744073709551616 = n1 := by rw [← hn, IntKind.wrap_u64]
  rw [hst] at hbx
  rw [hnm]
  clear hnm
  obtain ⟨F, hF⟩ : ∃ F, fillN lf.size s.size = F := ⟨_, rfl⟩
  have hmin : min (64 - (lf.size : Int)) (s.size : Int) = (F : Int) := by rw [← hF]; unfold fillN; split <;> omega
  have hF1 : (F : Int) ≤ (s.size : Int) := by rw [← hmin]; omega
  have hcat : ∀ u : World, (Op.stringOp .add lf (s.extract 0 F)).run Tryd.prog u = .ok (.string (lf ++ s.extract 0 F)) u := fun u => run_string_add_sum u _ _ (by rw [ByteArray.size_extract]; omega)
  have bg0 : Box (w.alloc (.cells #[.pointer (some ⟨g, 0, none⟩)] 67)) g T (shaW X st lf n) := hbx.past _
  have bh0 := Box.made w 67 #[.pointer (some ⟨g, 0, none⟩)]
  have k0 : But g w (w.alloc (.cells #[.pointer (some ⟨g, 0, none⟩)] 67)) := (But.refl g w).past _
  have hgw : g < w.heap.size := hbx.inside
  have hTW := hT.past (.cells #[.pointer (some ⟨g, 0, none⟩)] 67)
  refine (callsIn_wide (n := 9)).1 (callsIn_of_wp_marks Tryd.func55 rfl trivial ?_ rfl)
  refine wpIn_wide.2 ?_
  simp only [Tryd.ntmps55, List.size_toArray, List.length_cons, List.length_nil, Nat.reduceAdd, Nat.reduceSub, Array.replicate_succ, Array.replicate_zero, List.push_toArray, List.append_toArray, List.nil_append, List.cons_append]
  go_upto_region 1 with fail
  generalize w.alloc _ = W at *
  have h0 : W.cell? ⟨w.heap.size, 0, none⟩ = some (.pointer (some ⟨g, 0, none⟩)) := bh0.read 0
  obtain ⟨r0, r1, r2, r3, r4, r5, r6, r7, r8, r9, r10⟩ := bg0.sha
  obtain ⟨f0, f1, f2, f3, f4, f5, f6, f7, f8, f9, f10, hin⟩ := bg0.free11
  have hin2 := bh0.inside
  have hszm : (s.size : Int) % 18446744073709551616 = s.size := by omega
  go_upto_region 3 with fail
  go_quiet (fail)
  have bgY : Box ((W.setCell ⟨g, 10, none⟩ (Value.int IntKind.u64 n1)).drewN nq) g T (shaW X st lf n1) := by
    have h := bg0.wrote 10 (Value.int IntKind.u64 n1)
    rw [shaV_taken] at h
    exact h
  have bhY : Box ((W.setCell ⟨g, 10, none⟩ (Value.int IntKind.u64 n1)).drewN nq) w.heap.size 67 #[.pointer (some ⟨g, 0, none⟩)] := bh0.apart (p := ⟨g, 10, none⟩) (Nat.ne_of_gt hgw) (Value.int IntKind.u64 n1)
  have kY : But g w ((W.setCell ⟨g, 10, none⟩ (Value.int IntKind.u64 n1)).drewN nq) := (k0.set_ 10 (Value.int IntKind.u64 n1)).drewN nq
  have tY : Tab ((W.setCell ⟨g, 10, none⟩ (Value.int IntKind.u64 n1)).drewN nq) := hTW.set (by omega) 10 (Value.int IntKind.u64 n1)
  clear r0 r1 r2 r3 r4 r5 r6 r7 r8 r9 r10 f0 f1 f2 f3 f4 f5 f6 f7 f8 f9 f10 hin hin2 h0 bg0 bh0 k0 hTW hcat
  generalize World.drewN _ _ = Y at *
  obtain ⟨B, hB⟩ : ∃ B, lf ++ s.extract 0 F = B := ⟨_, rfl⟩
  obtain ⟨H, hH⟩ : ∃ H, s.extract F s.size = H := ⟨_, rfl⟩
  have hBl : B.data.toList = left t ++ s.data.toList.take F := by
    rw [← hB, ← hlf, ByteArray.data_append, Array.toList_append, ByteArray.data_extract, Array.toList_extract, List.extract_eq_take_drop]
    simp
  have hHl : H.data.toList = s.data.toList.drop F := by
    rw [← hH, ByteArray.data_extract, Array.toList_extract, List.extract_eq_take_drop]
    apply List.take_of_length_le
    rw [List.length_drop]
    exact Nat.le_of_eq rfl
  have hsl : s.data.toList.length = s.size := by simp
  have hBs : B.size = lf.size + F := by rw [← hB, ByteArray.size_append, ByteArray.size_extract]; omega
  have hHs : H.size = s.size - F := by rw [← hH, ByteArray.size_extract]; omega
  have hHi : H.size ≤ 9223372036854775807 := by omega
  have hjoin : left t ++ s.data.toList = B.data.toList ++ H.data.toList := by rw [hBl, hHl, List.append_assoc, List.take_append_drop]
  have hBll : B.data.toList.length = B.size := by simp
  have hHll : H.data.toList.length = H.size := by simp
  have hB64 : B.size = 64 ∨ B.size < 64 ∧ H.data.toList = [] := by
    have hFd : F = if 64 - lf.size ≤ s.size then 64 - lf.size else s.size := hF.symm
    by_cases h : 64 - lf.size ≤ s.size
    · rw [if_pos h] at hFd; left; omega
    · rw [if_neg h] at hFd; right; exact ⟨by omega, List.length_eq_zero_iff.1 (by omega)⟩
  rw [hB, hH]
  have HJ := hideIt hjoin
  have HB64 := hideIt hB64
  have HBl := hideIt hBll
  have HHl := hideIt hHll
  clear hB hH hBl hHl hsl hjoin hB64 hBll hHll hmin hF hF1 hHs hBs
  have cB := fun a u => blocks_any a 2 2 u
  go_wp2_with (first | (go_at_call 70; refine (cB _ _).mono ?_; rintro e w' ⟨rfl, rfl⟩))
  have BT : Box ((Y.alloc (.cells #[.string B, .string H] 9)).alloc (.cells #[.slice (some ⟨Y.heap.size, 0, none⟩) 2 2] 104)) Y.heap.size 9 #[.string B, .string H] := (Box.made Y 9 #[.string B, .string H]).past _
  have BV : Box ((Y.alloc (.cells #[.string B, .string H] 9)).alloc (.cells #[.slice (some ⟨Y.heap.size, 0, none⟩) 2 2] 104)) (Y.heap.size + 1) 104 #[.slice (some ⟨Y.heap.size, 0, none⟩) 2 2] := by
    have h := Box.made (Y.alloc (.cells #[.string B, .string H] 9)) 104 #[.slice (some ⟨Y.heap.size, 0, none⟩) 2 2]
    rw [size_alloc1] at h
    exact h
  have bgZ := (bgY.past (.cells #[.string B, .string H] 9)).past (.cells #[.slice (some ⟨Y.heap.size, 0, none⟩) 2 2] 104)
  have bhZ := (bhY.past (.cells #[.string B, .string H] 9)).past (.cells #[.slice (some ⟨Y.heap.size, 0, none⟩) 2 2] 104)
  have kZ := (kY.past (.cells #[.string B, .string H] 9)).past (.cells #[.slice (some ⟨Y.heap.size, 0, none⟩) 2 2] 104)
  have tZ := (tY.past (.cells #[.string B, .string H] 9)).past (.cells #[.slice (some ⟨Y.heap.size, 0, none⟩) 2 2] 104)
  have hYw : w.heap.size < Y.heap.size := bhY.inside
  have hZs : ((Y.alloc (.cells #[.string B, .string H] 9)).alloc (.cells #[.slice (some ⟨Y.heap.size, 0, none⟩) 2 2] 104)).heap.size = Y.heap.size + 2 := by simp
  clear bgY bhY kY tY cB
  generalize World.alloc (World.alloc _ _) _ = Z at *
  generalize Y.heap.size = y at *
  refine (wpIn_wide (n := 9)).1 ?_
  refine wpIn_rangeFunc_ownF (F := Fence.wide) (n := 9) rfl (by decide) (gf := 78) (lb := #[.pointer (some ⟨y + 1, 0, none⟩)]) rfl trivial (enters_of Tryd.func78 (by kernel_rfl) rfl)
    (iter_stops 8 (by decide) (y + 1) y B H Z (BV.read 0) BV.inside BT.inside (BT.read 0) (BT.read 1)) KeptB.trans
    (fun W l o o' hl h _ _ => World.putObj_heap_other (by omega)) (Below.refl _ _) (fun _ => rfl)
    (Mid T X w g st lf n1 y) (fun _ _ _ => False) (mid_own T X w g st lf n1 y _ (by omega)) (fun _ _ _ _ _ hs _ _ => hs) ⟨bgZ, bhZ, tZ, kZ, by omega⟩ ?a1 ?assign ?body ?done ?stop
  case assign =>
    intro l x W K hK
    gi_wp2
    exact hK
  case body =>
    rintro l pre x W ⟨bgW, bhW, tW, kW, hyW⟩ _
    have hW0 : W.cell? ⟨w.heap.size, 0, none⟩ = some (.pointer (some ⟨g, 0, none⟩)) := bhW.read 0
    obtain ⟨r0, r1, r2, r3, r4, r5, r6, r7, r8, r9, r10⟩ := bgW.sha
    have hin := bgW.inside
    have hin2 := bhW.inside
    obtain ⟨N, hN⟩ : ∃ N, stepS (runB st pre) x = N := ⟨_, rfl⟩
    have cN : Calls Tryd.prog 71 #[.agg #[.int .u32 (iv (runB st pre).a), .int .u32 (iv (runB st pre).b), .int .u32 (iv (runB st pre).c), .int .u32 (iv (runB st pre).d), .int .u32 (iv (runB st pre).e), .int .u32 (iv (runB st pre).f), .int .u32 (iv (runB st pre).g), .int .u32 (iv (runB st pre).h)], .string x.1] W.drew (Tells (.tuple #[.agg #[.int .u32 (iv N.a), .int .u32 (iv N.b), .int .u32 (iv N.c), .int .u32 (iv N.d), .int .u32 (iv N.e), .int .u32 (iv N.f), .int .u32 (iv N.g), .int .u32 (iv N.h)], .int .i64 0]) W.drew.heap.size W.drew) := by rw [← hN]; exact next_ok (runB st pre) x.1 x.2 W.drew tW.drew
    have hmx : Tryd.prog.follows .mixedOrders = true := by kernel_rfl
    have hsn : runB st (pre ++ [x]) = N := by rw [runB_snoc, hN]
    have HSN := hideIt hsn
    clear hN hsn
    generalize runB st pre = A at *
    gi_wp2
    have hQ0 : ¬ LetsOut (Exit.inBlock 1 (ownPostK (KeptB y) (Mid T X w g st lf n1 y) (fun _ _ _ => False) (pre ++ [x]) W)) := fun ⟨a, u, h⟩ => h
    refine region_round (S := fun u => u.cell? ⟨w.heap.size, 0, none⟩ = some (.pointer (some ⟨g, 0, none⟩))) hmx (by kernel_rfl) hQ0 hW0 (fun hHeld => ?_)
    clear hQ0 BT BV bgZ bhZ kZ tZ HJ HB64 HBl HHl
    refine wpAnyH_take (i := 0) (oi := { dst := some 45, op := Op.load 67 (Operand.tmp 2), type := 67, pos := "sha.go:83", after := #[], guard := none }) (v := ?_) rfl (by kernel_rfl) (by kernel_rfl) (by kernel_rfl) (fun _ _ _ h => h) (Or.inl ⟨by rfl, ?_⟩) (by assumption) ?_
    rotate_left 1
    · intro w hSw; (try dsimp only at hSw); go_simp; try with_reducible rfl
    try simp only [Act.put, List.setIfInBounds_toArray, List.set_cons_zero, List.set_cons_succ]
    refine wpAnyH_take (i := 1) (oi := { dst := some 46, op := Op.load 67 (Operand.tmp 2), type := 67, pos := "sha.go:83", after := #[], guard := none }) (v := ?_) rfl (by kernel_rfl) (by kernel_rfl) (by kernel_rfl) (fun _ _ _ h => h) (Or.inl ⟨by rfl, ?_⟩) (by assumption) ?_
    rotate_left 1
    · intro w hSw; (try dsimp only at hSw); go_simp; try with_reducible rfl
    try simp only [Act.put, List.setIfInBounds_toArray, List.set_cons_zero, List.set_cons_succ]
    refine wpAnyH_take (i := 2) (oi := { dst := some 47, op := Op.nilCheck (Operand.tmp 46), type := 0, pos := "sha.go:83", after := #[{ on := 1, ground := Ground.data }], guard := none }) (v := ?_) rfl (by kernel_rfl) (by kernel_rfl) (by kernel_rfl) (fun _ _ _ h => h) (Or.inl ⟨by rfl, ?_⟩) (by assumption) ?_
    rotate_left 1
    · intro w hSw; (try dsimp only at hSw); go_simp; try with_reducible rfl
    try simp only [Act.put, List.setIfInBounds_toArray, List.set_cons_zero, List.set_cons_succ]
    refine wpAnyH_take (i := 3) (oi := { dst := some 48, op := Op.fieldAddr 93 (Operand.tmp 47) 1, type := 0, pos := "sha.go:83", after := #[{ on := 2, ground := Ground.data }], guard := none }) (v := ?_) rfl (by kernel_rfl) (by kernel_rfl) (by kernel_rfl) (fun _ _ _ h => h) (Or.inl ⟨by rfl, ?_⟩) (by assumption) ?_
    rotate_left 1
    · intro w hSw; (try dsimp only at hSw); go_simp; try with_reducible rfl
    try simp only [Act.put, List.setIfInBounds_toArray, List.set_cons_zero, List.set_cons_succ]
    refine wpAnyH_take (i := 5) (oi := { dst := some 50, op := Op.move (Operand.tmp 7), type := 9, pos := "sha.go:83", after := #[], guard := none }) (v := ?_) rfl (by kernel_rfl) (by kernel_rfl) (by kernel_rfl) (fun _ _ _ h => h) (Or.inl ⟨by rfl, ?_⟩) (by assumption) ?_
    rotate_left 1
    · intro w hSw; (try dsimp only at hSw); go_simp; try with_reducible rfl
    try simp only [Act.put, List.setIfInBounds_toArray, List.set_cons_zero, List.set_cons_succ]
    refine wpAnyH_ready (rs := [4]) (by kernel_rfl) (by simp) (AllReadyH.cons (o := { dst := some 49, op := Op.load 90 (Operand.tmp 48), type := 90, pos := "sha.go:83", after := #[{ on := 3, ground := Ground.data }], guard := none }) rfl (fun K hK => ?_) AllReadyH.nil)
    go_simp
    refine hK.out _ _ ?_ (fun hHeld => ?_)
    · exact hW0
    clear hK K
    try simp only [Act.put, List.setIfInBounds_toArray, List.set_cons_zero, List.set_cons_succ]
    refine wpAnyH_ready (rs := [6]) (by kernel_rfl) (by simp) (AllReadyH.cons (o := { dst := some 51, op := Op.call { callee := Callee.value (Operand.func 71), args := #[Operand.tmp 49, Operand.tmp 50], argTypes := #[90, 9] }, type := 97, pos := "sha.go:83", after := #[{ on := 4, ground := Ground.data }, { on := 5, ground := Ground.data }], guard := none }) rfl (fun K hK => ?_) AllReadyH.nil)
    go_simp
    go_at_call 71
    refine cN.mono ?_
    rintro e w5 ⟨rfl, b5⟩
    have bg5 := (bgW.draw).call b5
    have bh5 := (bhW.draw).call b5
    obtain ⟨q0, q1, q2, q3, q4, q5, q6, q7, q8, q9, q10⟩ := bg5.sha
    obtain ⟨f0, f1, f2, f3, f4, f5, f6, f7, f8, f9, f10, hin5⟩ := bg5.free11
    try simp only []
    refine hK.out _ _ ?_ (fun hHeld => ?_)
    · exact bh5.read 0
    clear hK K
    try simp only [Act.put, List.setIfInBounds_toArray, List.set_cons_zero, List.set_cons_succ]
    refine wpAnyH_take (i := 7) (oi := { dst := some 44, op := Op.move (Operand.tmp 51), type := 97, pos := "sha.go:83", after := #[{ on := 6, ground := Ground.data }], guard := none }) (v := ?_) rfl (by kernel_rfl) (by kernel_rfl) (by kernel_rfl) (fun _ _ _ h => h) (Or.inl ⟨by rfl, ?_⟩) (by assumption) ?_
    rotate_left 1
    · intro w hSw; (try dsimp only at hSw); go_simp; try with_reducible rfl
    try simp only [Act.put, List.setIfInBounds_toArray, List.set_cons_zero, List.set_cons_succ]
    refine wpAnyH_take (i := 8) (oi := { dst := some 52, op := Op.extract (Operand.tmp 44) 0, type := 90, pos := "sha.go:83", after := #[{ on := 7, ground := Ground.data }], guard := none }) (v := ?_) rfl (by kernel_rfl) (by kernel_rfl) (by kernel_rfl) (fun _ _ _ h => h) (Or.inl ⟨by rfl, ?_⟩) (by assumption) ?_
    rotate_left 1
    · intro w hSw; (try dsimp only at hSw); go_simp; try with_reducible rfl
    try simp only [Act.put, List.setIfInBounds_toArray, List.set_cons_zero, List.set_cons_succ]
    refine wpAnyH_take (i := 9) (oi := { dst := some 53, op := Op.extract (Operand.tmp 44) 1, type := 56, pos := "sha.go:83", after := #[{ on := 7, ground := Ground.data }, { on := 12, ground := Ground.gcOnly Departure.lateStores }], guard := none }) (v := ?_) rfl (by kernel_rfl) (by kernel_rfl) (by kernel_rfl) (fun _ _ _ h => h) (Or.inl ⟨by rfl, ?_⟩) (by assumption) ?_
    rotate_left 1
    · intro w hSw; (try dsimp only at hSw); go_simp; try with_reducible rfl
    try simp only [Act.put, List.setIfInBounds_toArray, List.set_cons_zero, List.set_cons_succ]
    refine wpAnyH_take (i := 10) (oi := { dst := some 54, op := Op.nilCheck (Operand.tmp 45), type := 0, pos := "sha.go:83", after := #[{ on := 0, ground := Ground.data }, { on := 0, ground := Ground.phase }, { on := 1, ground := Ground.phase }, { on := 2, ground := Ground.phase }, { on := 3, ground := Ground.phase }, { on := 4, ground := Ground.phase }, { on := 5, ground := Ground.phase }, { on := 6, ground := Ground.phase }, { on := 7, ground := Ground.phase }, { on := 8, ground := Ground.phase }, { on := 9, ground := Ground.textOnly Departure.lateStores }], guard := none }) (v := ?_) rfl (by kernel_rfl) (by kernel_rfl) (by kernel_rfl) (fun _ _ _ h => h) (Or.inl ⟨by rfl, ?_⟩) (by assumption) ?_
    rotate_left 1
    · intro w hSw; (try dsimp only at hSw); go_simp; try with_reducible rfl
    try simp only [Act.put, List.setIfInBounds_toArray, List.set_cons_zero, List.set_cons_succ]
    refine wpAnyH_take (i := 11) (oi := { dst := some 55, op := Op.fieldAddr 93 (Operand.tmp 54) 1, type := 0, pos := "sha.go:83", after := #[{ on := 10, ground := Ground.data }, { on := 0, ground := Ground.phase }, { on := 1, ground := Ground.phase }, { on := 2, ground := Ground.phase }, { on := 3, ground := Ground.phase }, { on := 4, ground := Ground.phase }, { on := 5, ground := Ground.phase }, { on := 6, ground := Ground.phase }, { on := 7, ground := Ground.phase }, { on := 8, ground := Ground.phase }, { on := 9, ground := Ground.textOnly Departure.lateStores }], guard := none }) (v := ?_) rfl (by kernel_rfl) (by kernel_rfl) (by kernel_rfl) (fun _ _ _ h => h) (Or.inl ⟨by rfl, ?_⟩) (by assumption) ?_
    rotate_left 1
    · intro w hSw; (try dsimp only at hSw); go_simp; try with_reducible rfl
    try simp only [Act.put, List.setIfInBounds_toArray, List.set_cons_zero, List.set_cons_succ]
    have bh6 : Box (setS w5 g N) w.heap.size 67 #[.pointer (some ⟨g, 0, none⟩)] := ((But.refl g w5).setS N).box bh5 (Nat.ne_of_gt hgw)
    refine wpAnyH_ready (rs := [12]) (by kernel_rfl) (by simp) (AllReadyH.cons (o := { dst := none, op := Op.store 90 (Operand.tmp 55) (Operand.tmp 52), type := 0, pos := "sha.go:83", after := #[{ on := 11, ground := Ground.data }, { on := 8, ground := Ground.data }, { on := 6, ground := Ground.chain }, { on := 0, ground := Ground.phase }, { on := 1, ground := Ground.phase }, { on := 2, ground := Ground.phase }, { on := 3, ground := Ground.phase }, { on := 4, ground := Ground.phase }, { on := 5, ground := Ground.phase }, { on := 6, ground := Ground.phase }, { on := 7, ground := Ground.phase }, { on := 8, ground := Ground.phase }, { on := 9, ground := Ground.textOnly Departure.lateStores }], guard := none }) rfl (fun K hK => ?_) AllReadyH.nil)
    go_simp
    refine hK.out _ _ ?_ (fun hHeld => ?_)
    · exact bh6.read 0
    clear hK K
    try simp only [Act.put, List.setIfInBounds_toArray, List.set_cons_zero, List.set_cons_succ]
    refine wpAnyH_done (by kernel_rfl) ?_ _
    have kb : But g W (setS w5 g N) := (((But.refl g W).drew).call b5).setS N
    refine ⟨((KeepsOthers.drew W).trans (keeps_below b5)).trans (keeps_setS w5 g N), kb.block y hyW (by omega), ?_, bh6, kb.tab tW hg0, kW.trans kb, Nat.lt_of_lt_of_le hyW kb.size⟩
    rw [HSN.out]
    exact bg5.wroteS N
  case done =>
    rintro D xs W hD rfl ⟨bgW, bhW, tW, kW, hyW⟩ hK
    have hfin : runB st (chunks B.data.toList ++ chunks H.data.toList) = fin (t ++ s.data.toList) := by
      rw [← hst]
      refine (fin_take t s.data.toList _ _ HJ.out ?_).symm
      rw [HBl.out]
      exact HB64.out
    rw [hfin] at bgW
    obtain ⟨N, hN⟩ : ∃ N, fin (t ++ s.data.toList) = N := ⟨_, rfl⟩
    rw [hN] at bgW
    have HN := hideIt hN
    clear hN
    have hW0 : W.cell? ⟨w.heap.size, 0, none⟩ = some (.pointer (some ⟨g, 0, none⟩)) := bhW.read 0
    have hWd : W.drew.cell? ⟨w.heap.size, 0, none⟩ = some (.pointer (some ⟨g, 0, none⟩)) := hW0
    have hing := bgW.inside
    have hin2 := bhW.inside
    have r9 : W.cell? ⟨g, 9, none⟩ = some (.string lf) := bgW.read 9
    have f9 : W.frozen? ⟨g, 9, none⟩ = false := bgW.free 9
    have fin_ : ∀ (lg : ByteArray) (w5 : World), lg.data.toList = left (t ++ s.data.toList) → Below W.drew.heap.size W.drew w5 →
        w5.cell? ⟨w.heap.size, 0, none⟩ = some (.pointer (some ⟨g, 0, none⟩)) ∧ w5.cell? ⟨g, 9, none⟩ = some (.string lf) ∧ w5.frozen? ⟨g, 9, none⟩ = false ∧ g < w5.heap.size ∧
        (w5.setCell ⟨g, 9, none⟩ (.string lg)).cell? ⟨w.heap.size, 0, none⟩ = some (.pointer (some ⟨g, 0, none⟩)) ∧ (w5.setCell ⟨g, 9, none⟩ (.string lg)).heap[D]? = some (.deferred (some [])) ∧
        Box (w5.setCell ⟨g, 9, none⟩ (.string lg)) g T (shaW X N lg n1) ∧ But g w (w5.setCell ⟨g, 9, none⟩ (.string lg)) := fun lg w5 hl b5 => by
      have bg5 := (bgW.draw).call b5
      have bh5 := (bhW.draw).call b5
      have k5 := (kW.drew).call b5
      have b6 := bg5.wrote 9 (Value.string lg)
      rw [shaV_left] at b6
      have bh6 : Box (w5.setCell ⟨g, 9, none⟩ (.string lg)) w.heap.size 67 #[.pointer (some ⟨g, 0, none⟩)] := bh5.apart (p := ⟨g, 9, none⟩) (Nat.ne_of_gt hgw) _
      have hDlt : D < W.heap.size := (Array.getElem?_eq_some_iff.1 hK).1
      exact ⟨bh5.read 0, bg5.read 9, bg5.free 9, bg5.inside, bh6.read 0, (Below.heap_setCell w5 ⟨g, 9, none⟩ _ D (by dsimp only; omega)).trans ((b5.block D hDlt).trans hK), b6, k5.set_ 9 _⟩
    rcases HB64.out with h64 | ⟨hlt, hHn⟩
    · obtain ⟨K, hKd⟩ : ∃ K, H.size - H.size % 64 = K := ⟨_, rfl⟩
      have hrem : (H.size : Int) - (H.size : Int) % 64 = (K : Int) := by omega
      have hK1 : (K : Int) ≤ (H.size : Int) := by omega
      have hwK : wrap64 (K : Int) = (K : Int) := wrap64_nat K (by omega)
      have h64i : (B.size : Int) = 64 := by omega
      obtain ⟨lg, hlg⟩ : ∃ lg, H.extract K H.size = lg := ⟨_, rfl⟩
      have hlgl : lg.data.toList = left (t ++ s.data.toList) := by
        rw [left_full t s.data.toList _ _ HJ.out (by rw [HBl.out]; exact h64)]
        unfold left
        rw [HHl.out, ← hlg, ByteArray.data_extract, Array.toList_extract, List.extract_eq_take_drop, show 64 * (H.size / 64) = K by omega]
        apply List.take_of_length_le
        rw [List.length_drop, HHl.out]
        exact Nat.le_refl _
      have hlgs : lg.size ≤ 281474976710656 := by rw [← hlg, ByteArray.size_extract]; omega
      have cC := clone_any lg hlgs W.drew
      have FN := hideIt (fin_ lg)
      have HLG := hideIt hlgl
      clear fin_ hlgl hlgs
      dsimp only [Exit.inBlock, Exit.then]
      go_wp2
      go_region_held3 (fun u => u.cell? ⟨w.heap.size, 0, none⟩ = some (.pointer (some ⟨g, 0, none⟩)))
        (first | exact hWd | exact x0 | exact x4 | fail)
        (first | (go_at_call 41; refine cC.mono ?_; rintro e w5 ⟨rfl, b5⟩; obtain ⟨x0, x1, x2, x3, x4, x5, x6, x7⟩ := FN.out w5 HLG.out b5) | fail)
      have hDw : g < D ∧ w.heap.size ≤ D := by omega
      refine ⟨by simp, .inl ⟨_, _, rfl, run_takeDeferred x5, ?_⟩⟩
      exact ⟨_, results_none rfl _ _ _, rfl, ⟨lg, HLG.out, by rw [HN.out]; exact (World.putObj_heap_other (by omega)).trans x6⟩, x7.putObj hDw.2 _⟩
    · have hsm : H.data.toList.length = 0 := by rw [hHn]; rfl
      have hBe : B.data.toList = left (t ++ s.data.toList) := by
        have e1 : left t ++ s.data.toList = B.data.toList := by rw [HJ.out, hHn, List.append_nil]
        exact (left_part t s.data.toList _ e1 (by rw [HBl.out]; exact hlt)).symm
      have h64i : ¬ ((B.size : Int) = 64) := by omega
      have cC := clone_any B (by omega) W.drew
      have FN := hideIt (fin_ B)
      have HLG := hideIt hBe
      clear fin_ hBe hsm hHn
      dsimp only [Exit.inBlock, Exit.then]
      go_wp2
      go_region_held3 (fun u => u.cell? ⟨w.heap.size, 0, none⟩ = some (.pointer (some ⟨g, 0, none⟩)))
        (first | exact hWd | exact x0 | exact x4 | fail)
        (first | (go_at_call 41; refine cC.mono ?_; rintro e w5 ⟨rfl, b5⟩; obtain ⟨x0, x1, x2, x3, x4, x5, x6, x7⟩ := FN.out w5 HLG.out b5) | fail)
      have hDw : g < D ∧ w.heap.size ≤ D := by omega
      refine ⟨by simp, .inl ⟨_, _, rfl, run_takeDeferred x5, ?_⟩⟩
      exact ⟨_, results_none rfl _ _ _, rfl, ⟨B, HLG.out, by rw [HN.out]; exact (World.putObj_heap_other (by omega)).trans x6⟩, x7.putObj hDw.2 _⟩
  case stop =>
    rintro D c pre W hD _ h _
    exact h.elim
end Go.Proofs.YtkmnfogcocppjaaDoor
