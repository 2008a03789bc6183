/-
  The law HmacDigests: a mac is the digest of outer and a digest: that of inner and the text, each the key's block, put together with 92, with 54; its first bytes begin it, its number is theirs.
  Conditions: block's table of constants holds what the program's text lays (tied by the card).
-/
import Derived.Test.YtnlkhabaidncgaaDoorU6Awake
import Derived.Test.YtnlkhabaidncgaaDoorR6Block
import Derived.Test.YtnlkhabaidncgaaDoorW4Laid
namespace Go.Proofs.YtnlkhabaidncgaaDoor
set_option linter.unusedVariables false
set_option linter.unusedSimpArgs false
open Go.ChangeShapes Go.WideShapes Go.ChangeAt Go.RowKit

theorem int_of {x : Int} (h : (Lit.int .i64 x).wf = true) : -9223372036854775808 ≤ x ∧ x ≤ 9223372036854775807 := by
  simp [Lit.wf, IntKind.min, IntKind.max, IntKind.signed, IntKind.bits] at h
  omega
theorem RowS.low {w : World} {base base' g n cap : Nat} {l : List Int} (h : RowS w base g n cap l) (hb : base' ≤ base) : RowS w base' g n cap l :=
  ⟨Nat.le_trans hb h.above, h.len, h.room, h.most, h.there, h.at_, h.inside⟩

theorem RowS.far {w : World} {base g n cap : Nat} {l : List Int} (h : RowS w base g n cap l) (g' k : Nat) (v : Value) (hne : g ≠ g') : RowS (w.setCell ⟨g', k, none⟩ v) base g n cap l :=
  h.but ((But.refl g' w).set_ k v) hne
theorem rowS_none (w : World) (t : TypeId) : RowS (w.alloc (.cells #[] t)) w.heap.size w.heap.size 0 0 [] :=
  ⟨Nat.le_refl _, rfl, Nat.le_refl _, Nat.zero_le _, fun i hi => absurd hi (Nat.not_lt_zero i), fun i hi => absurd hi (Nat.not_lt_zero i), by simp⟩

set_option maxHeartbeats 1000000 in
theorem digests_long (key text : ByteArray) (n : Int) (h : 1000 < key.size ∨ 1000 < text.size) (hk : key.size ≤ 9223372036854775807) (ht : text.size ≤ 9223372036854775807) (w : World) (hT : Tab w) :
    Calls Tryd.prog 8 #[.string key, .string text, .int .i64 n] w (Tells (.bool true) w.heap.size w) := by
  have cA := awake6_any w hT
  by_cases h1 : (1000 : Int) < (key.size : Int)
  · go_enter Tryd.func8, Tryd.ntmps8
    go_wp2_with (first | (go_at_call 24; refine cA.mono ?_; rintro e w1 ⟨rfl, b1⟩))
    go_ret
    exact ⟨rfl, b1⟩
  · have h2 : (1000 : Int) < (text.size : Int) := by omega
    go_enter Tryd.func8, Tryd.ntmps8
    go_wp2_with (first | (go_at_call 24; refine cA.mono ?_; rintro e w1 ⟨rfl, b1⟩))
    go_ret
    exact ⟨rfl, b1⟩

set_option maxRecDepth 100000 in
set_option maxHeartbeats 4000000 in
theorem digests_short (key text : ByteArray) (n : Int) (hn : -9223372036854775808 ≤ n ∧ n ≤ 9223372036854775807) (hk : key.size ≤ 1000) (ht : text.size ≤ 1000) (w : World) (hT : Tab w) :
    Calls Tryd.prog 8 #[.string key, .string text, .int .i64 n] w (Tells (.bool true) w.heap.size w) := by
  have cA := awake6_any w hT
  have h1 : ¬ ((1000 : Int) < (key.size : Int)) := by omega
  have h2 : ¬ ((1000 : Int) < (text.size : Int)) := by omega
  have cB := fun u hu => hblock_any key (by omega) u hu
  have cS := fun u hu => hsum_any key text (by omega) (by omega) u hu
  have cF := fun u hu => hfirst_any key text (by omega) (by omega) n hn u hu
  have cM := fun u hu => hnumber_any key text (by omega) (by omega) u hu
  have zB := kblk_size key
  have zI := maskB_size 54 key
  have zO := maskB_size 92 key
  have zR := macB_size key text.data.toList
  have zD := innB_size key text.data.toList
  have eI : maskB 54 key = strOfNums (maskI 54 (nums (kblk key))) := rfl
  have eO : maskB 92 key = strOfNums (maskI 92 (nums (kblk key))) := rfl
  have eD := innB_text key text
  have eR : macB key text.data.toList = digB (maskB 92 key ++ innB key text.data.toList).data.toList := rfl
  have eN : macN key text.data.toList = numB ((nums (macB key text.data.toList)).take 8) := rfl
  generalize macN key text.data.toList = N at *
  generalize macB key text.data.toList = R at *
  generalize innB key text.data.toList = D at *
  generalize maskB 54 key = I at *
  generalize maskB 92 key = O at *
  generalize kblk key = K at *
  obtain ⟨X, hX⟩ : ∃ X, I ++ text = X := ⟨_, rfl⟩
  obtain ⟨Y, hY⟩ : ∃ Y, O ++ D = Y := ⟨_, rfl⟩
  have zX : X.size = 64 + text.size := by rw [← hX, ByteArray.size_append, zI]
  have zY : Y.size = 96 := by rw [← hY, ByteArray.size_append, zO, zD]
  have hcX : ∀ u : World, (Op.stringOp .add I text).run Tryd.prog u = .ok (.string X) u := fun u => by rw [← hX]; exact run_string_add_sum u _ _ (by omega)
  have hcY : ∀ u : World, (Op.stringOp .add O D).run Tryd.prog u = .ok (.string Y) u := fun u => by rw [← hY]; exact run_string_add_sum u _ _ (by omega)
  have cX := fun u hu => sum_any X (by omega) u hu
  have cY := fun u hu => sum_any Y (by omega) u hu
  rw [hX] at eD
  rw [hY] at eR
  rw [← eD] at cX
  rw [← eR] at cY
  obtain ⟨F, hF⟩ : ∃ F, cutN n = F := ⟨_, rfl⟩
  have hrx : firB R n = R.extract 0 F := by unfold firB; rw [hF]
  rw [hrx] at cF
  obtain ⟨A, hA⟩ : ∃ A, min n 32 = A := ⟨_, rfl⟩
  have hmx : max 0 A = (F : Int) := by unfold cutN at hF; omega
  have hF1 : (F : Int) ≤ 32 := by unfold cutN at hF; omega
  have hcv := fun u => run_bytes_of_string (P := Tryd.prog) u 9 53 5 K Tryd.underlying9 Tryd.underlying53 Tryd.underlying5
  simp only [zB] at hcv
  have hlen : (nums K).length = 64 := by rw [nums_len]; exact zB
  have hbd := nums_bd K
  have HX := hideIt (And.intro hcX cX)
  have HY := hideIt (And.intro hcY cY)
  have HS := hideIt cS
  have HF := hideIt (And.intro cF cM)
  have HE := hideIt (And.intro eI eO)
  have HN := hideIt eN
  have HR := hideIt zR
  have HA := hideIt (And.intro hA (And.intro hmx hF1))
  clear hcX cX hcY cY cS cF cM eI eO eN zR hA hmx hF1 hF hrx eD eR hX hY zX zY zD zI zO hk ht
  go_enter Tryd.func8, Tryd.ntmps8
  go_upto_region 6 with (first
    | (go_at_call 24; refine cA.mono ?_; rintro e w1 ⟨rfl, b1⟩; have t1 := hT.call b1)
    | (go_at_call 12; refine (cB _ t1).mono ?_; rintro e w2 ⟨rfl, b2⟩; have t2 := t1.call b2))
  have L2 := chain b1 b2
  have R1 := rowS_bytes w2 w.heap.size L2.size K (by omega)
  rw [zB] at R1
  have L3 : Below w.heap.size w (w2.drew.alloc (.cells (bytesRow K (grownCap w2 64 0 5)) 5 ((bytesRow K (grownCap w2 64 0 5)).size, (bytesRow K (grownCap w2 64 0 5)).size + 1))) := chainA (L2.drew) _
  change Code.wp _ _ _ _ (w2.drew.alloc (.cells (bytesRow K (grownCap w2 64 0 5)) 5 ((bytesRow K (grownCap w2 64 0 5)).size, (bytesRow K (grownCap w2 64 0 5)).size + 1)))
  generalize w2.drew.alloc _ = W at *
  generalize grownCap w2 64 0 5 = cap at *
  generalize w2.heap.size = gb at *
  generalize nums K = l at *
  clear hcv cA cB b1 b2 t1 t2 L2 zB
  have in1 := R1.inside
  have lW := L3.size
  obtain ⟨g1, cap1, W1, hrun1, hR1, hB1⟩ := row_append (W.alloc (.cells #[] 5)) W.heap.size W.heap.size 0 0 [] (rowS_none W _) gb 64 cap l hlen (fun j hj => (R1.past _).at_ j hj) (by omega) (by simp)
  simp only [Nat.zero_add, List.nil_append] at hrun1 hR1
  have R2 : RowS W1 w.heap.size gb 64 cap l := (R1.past _).but hB1 (by omega)
  have L4 : Below w.heap.size w W1 := (L3.alloc lW _).trans (hB1.below lW (by simp; omega))
  have in2 := hR1.inside
  have lW1 := L4.size
  have a1 := hR1.above
  obtain ⟨g2, cap2, W2, hrun2, hR2, hB2⟩ := row_append (W1.alloc (.cells #[] 5)) W1.heap.size W1.heap.size 0 0 [] (rowS_none W1 _) gb 64 cap l hlen (fun j hj => (R2.past _).at_ j hj) (by omega) (by simp)
  simp only [Nat.zero_add, List.nil_append] at hrun2 hR2
  have in2b := R2.inside
  have R3 : RowS W2 w.heap.size gb 64 cap l := (R2.past _).but hB2 (by omega)
  have R4 : RowS W2 w.heap.size g1 64 cap1 l := ((hR1.past _).but hB2 (by omega)).low lW
  have R5 : RowS W2 w.heap.size g2 64 cap2 l := hR2.low lW1
  have L5 : Below w.heap.size w W2 := (L4.alloc lW1 _).trans (hB2.below lW1 (by simp; omega))
  have a2 := hR2.above
  have n1 : gb ≠ g1 := by omega
  have n2 : gb ≠ g2 := by omega
  have n3 : g1 ≠ g2 := by omega
  have hgb := R3.above
  have hg1 := R4.above
  have hg2 := R5.above
  clear hB1 hB2 R1 R2 L3 L4 hR1 hR2 in1 in2 in2b a1 a2 lW lW1
  go_upto_region 7 with (first
    | (at_builtin; (with_reducible show wpList _ _ _ _ _ (World.alloc W _)); refine wpl_append_run rfl _ _ rfl _ _ _ _ rfl rfl hrun1 ?_)
    | (at_builtin; (with_reducible show wpList _ _ _ _ _ (World.alloc W1 _)); refine wpl_append_run rfl _ _ rfl _ _ _ _ rfl rfl hrun2 ?_))
  clear hrun1 hrun2
  rw [← mixI_zero 54 l] at R4
  rw [← mixI_zero 92 l] at R5
  have HL := hideIt (And.intro hlen hbd)
  clear hlen hbd
  go_wp2
  go_loopg [10] 64 (fun gk i wr => ∃ k : Nat, k ≤ 64 ∧ gk = 64 - k ∧ i = .int .i64 k ∧ RowS wr w.heap.size gb 64 cap l ∧ RowS wr w.heap.size g1 64 cap1 (mixI 54 l k) ∧ RowS wr w.heap.size g2 64 cap2 (mixI 92 l k) ∧ Below w.heap.size w wr)
  case atStart => exact ⟨0, by omega, rfl, rfl, R3, R4, R5, L5⟩
  case round =>
    clear R3 R4 R5 L5
    obtain ⟨k, hk, hgk, rfl, R3, R4, R5, L5⟩ := hrel
    have HG := hideIt hgk
    clear hgk
    by_cases hlt : k < 64
    · have b1 : (k : Int) < 64 := by omega
      have hll := HL.out.1
      have e1 := R4.len
      have e2 := R5.len
      have hx := getD_bd l HL.out.2 k
      have hx1 := bits_xorI (l.getD k 0) 54 hx (by decide)
      have hx2 := bits_xorI (l.getD k 0) 92 hx (by decide)
      have s1 := mixI_step 54 l k (by omega)
      have s2 := mixI_step 92 l k (by omega)
      have D3 := R3.call (Below.refl _ wr).drew
      have D4 := R4.call (Below.refl _ wr).drew
      have D5 := R5.call (Below.refl _ wr).drew
      have LD : Below w.heap.size w wr.drew := L5.drew
      have c3 := D3.at_ k hlt
      have c4 := D4.at_ k hlt
      have c5 := D5.at_ k hlt
      have z4 := (D4.row k (by omega)).2
      have z5 := (D5.row k (by omega)).2
      rw [mixI_at 54 l k (by omega)] at c4
      rw [mixI_at 92 l k (by omega)] at c5
      have E4 := D4.set_ k hlt (xorI (l.getD k 0) 54)
      rw [s1] at E4
      have E3 := D3.far g1 k (.int .u8 (xorI (l.getD k 0) 54)) n1
      have E5 := D5.far g1 k (.int .u8 (xorI (l.getD k 0) 54)) (Ne.symm n3)
      have LE := LD.setCell (p := ⟨g1, k, none⟩) hg1 (.int .u8 (xorI (l.getD k 0) 54))
      have c5' := E5.at_ k hlt
      have z5' := (E5.row k (by omega)).2
      rw [mixI_at 92 l k (by omega)] at c5'
      have G5 := E5.set_ k hlt (xorI (l.getD k 0) 92)
      rw [s2] at G5
      have G3 := E3.far g2 k (.int .u8 (xorI (l.getD k 0) 92)) n2
      have G4 := E4.far g2 k (.int .u8 (xorI (l.getD k 0) 92)) n3
      have LG := LE.setCell (p := ⟨g2, k, none⟩) hg2 (.int .u8 (xorI (l.getD k 0) 92))
      have q3 := D3.inside
      have q4 := D4.inside
      have q5 := D5.inside
      have f0 : wr.drew.cell? ⟨gb, k, none⟩ = some (.int .u8 (l.getD k 0)) ∧ gb < wr.drew.heap.size := ⟨c3, q3⟩
      have f1 := And.intro (E3.at_ k hlt) E3.inside
      have f2 := And.intro (G3.at_ k hlt) G3.inside
      have q5' := E5.inside
      clear R3 R4 R5 L5 D3 D4 D5 E3 E4 E5 LD LE s1 s2 e1 e2 hll hx q3
      have FF := hideIt (And.intro G3 (And.intro G4 (And.intro G5 LG)))
      clear G3 G4 G5 LG
      generalize l.getD k 0 = x at *
      go_upto_region 10 with fail
      refine wp_region_held_drew (S := fun u => u.cell? ⟨gb, k, none⟩ = some (.int .u8 x) ∧ gb < u.heap.size) (by kernel_rfl) f0 (fun hHeld => ?_)
      generalize wr.drew = wd at *
      refine wpAnyH_take (i := 0) (v := ?_) rfl (by kernel_rfl) (by kernel_rfl) (by kernel_rfl) (fun _ _ _ h => h) (Or.inl ⟨by rfl, ?_⟩) (by assumption) ?_
      rotate_left 1
      · intro w hSw; (try dsimp only at hSw); go_simp; try with_reducible rfl
      try simp only [Act.put, List.getElem_toArray, List.getElem_cons_succ, List.getElem_cons_zero, List.setIfInBounds_toArray, List.set_cons_zero, List.set_cons_succ]
      refine wpAnyH_take (i := 1) (v := ?_) rfl (by kernel_rfl) (by kernel_rfl) (by kernel_rfl) (fun _ _ _ h => h) (Or.inl ⟨by rfl, ?_⟩) (by assumption) ?_
      rotate_left 1
      · intro w hSw; (try dsimp only at hSw); go_simp; try with_reducible rfl
      try simp only [Act.put, List.getElem_toArray, List.getElem_cons_succ, List.getElem_cons_zero, List.setIfInBounds_toArray, List.set_cons_zero, List.set_cons_succ]
      refine wpAnyH_take (i := 2) (v := ?_) rfl (by kernel_rfl) (by kernel_rfl) (by kernel_rfl) (fun _ _ _ h => h) (Or.inl ⟨by rfl, ?_⟩) (by assumption) ?_
      rotate_left 1
      · intro w hSw; (try dsimp only at hSw); go_simp; try with_reducible rfl
      try simp only [Act.put, List.getElem_toArray, List.getElem_cons_succ, List.getElem_cons_zero, List.setIfInBounds_toArray, List.set_cons_zero, List.set_cons_succ]
      refine wpAnyH_take (i := 3) (v := ?_) rfl (by kernel_rfl) (by kernel_rfl) (by kernel_rfl) (fun _ _ _ h => h) (Or.inl ⟨by rfl, ?_⟩) (by assumption) ?_
      rotate_left 1
      · intro w hSw; (try dsimp only at hSw); go_simp; try with_reducible rfl
      try simp only [Act.put, List.getElem_toArray, List.getElem_cons_succ, List.getElem_cons_zero, List.setIfInBounds_toArray, List.set_cons_zero, List.set_cons_succ]
      refine wpAnyH_take (i := 4) (v := ?_) rfl (by kernel_rfl) (by kernel_rfl) (by kernel_rfl) (fun _ _ _ h => h) (Or.inl ⟨by rfl, ?_⟩) (by assumption) ?_
      rotate_left 1
      · intro w hSw; (try dsimp only at hSw); go_simp; try with_reducible rfl
      try simp only [Act.put, List.getElem_toArray, List.getElem_cons_succ, List.getElem_cons_zero, List.setIfInBounds_toArray, List.set_cons_zero, List.set_cons_succ]
      refine wpAnyH_take (i := 5) (v := ?_) rfl (by kernel_rfl) (by kernel_rfl) (by kernel_rfl) (fun _ _ _ h => h) (Or.inl ⟨by rfl, ?_⟩) (by assumption) ?_
      rotate_left 1
      · intro w hSw; (try dsimp only at hSw); go_simp; try with_reducible rfl
      try simp only [Act.put, List.getElem_toArray, List.getElem_cons_succ, List.getElem_cons_zero, List.setIfInBounds_toArray, List.set_cons_zero, List.set_cons_succ]
      refine wpAnyH_take (i := 6) (v := ?_) rfl (by kernel_rfl) (by kernel_rfl) (by kernel_rfl) (fun _ _ _ h => h) (Or.inl ⟨by rfl, ?_⟩) (by assumption) ?_
      rotate_left 1
      · intro w hSw; (try dsimp only at hSw); go_simp; try with_reducible rfl
      try simp only [Act.put, List.getElem_toArray, List.getElem_cons_succ, List.getElem_cons_zero, List.setIfInBounds_toArray, List.set_cons_zero, List.set_cons_succ]
      refine wpAnyH_take (i := 7) (v := ?_) rfl (by kernel_rfl) (by kernel_rfl) (by kernel_rfl) (fun _ _ _ h => h) (Or.inl ⟨by rfl, ?_⟩) (by assumption) ?_
      rotate_left 1
      · intro w hSw; (try dsimp only at hSw); go_simp; try with_reducible rfl
      try simp only [Act.put, List.getElem_toArray, List.getElem_cons_succ, List.getElem_cons_zero, List.setIfInBounds_toArray, List.set_cons_zero, List.set_cons_succ]
      refine wpAnyH_take (i := 8) (v := ?_) rfl (by kernel_rfl) (by kernel_rfl) (by kernel_rfl) (fun _ _ _ h => h) (Or.inl ⟨by rfl, ?_⟩) (by assumption) ?_
      rotate_left 1
      · intro w hSw; (try dsimp only at hSw); go_simp; try with_reducible rfl
      try simp only [Act.put, List.getElem_toArray, List.getElem_cons_succ, List.getElem_cons_zero, List.setIfInBounds_toArray, List.set_cons_zero, List.set_cons_succ]
      refine wpAnyH_take (i := 9) (v := ?_) rfl (by kernel_rfl) (by kernel_rfl) (by kernel_rfl) (fun _ _ _ h => h) (Or.inl ⟨by rfl, ?_⟩) (by assumption) ?_
      rotate_left 1
      · intro w hSw; (try dsimp only at hSw); go_simp; try with_reducible rfl
      try simp only [Act.put, List.getElem_toArray, List.getElem_cons_succ, List.getElem_cons_zero, List.setIfInBounds_toArray, List.set_cons_zero, List.set_cons_succ]
      refine wpAnyH_take (i := 10) (v := ?_) rfl (by kernel_rfl) (by kernel_rfl) (by kernel_rfl) (fun _ _ _ h => h) (Or.inl ⟨by rfl, ?_⟩) (by assumption) ?_
      rotate_left 1
      · intro w hSw; (try dsimp only at hSw); go_simp; try with_reducible rfl
      try simp only [Act.put, List.getElem_toArray, List.getElem_cons_succ, List.getElem_cons_zero, List.setIfInBounds_toArray, List.set_cons_zero, List.set_cons_succ]
      refine wpAnyH_take (i := 11) (v := ?_) rfl (by kernel_rfl) (by kernel_rfl) (by kernel_rfl) (fun _ _ _ h => h) (Or.inl ⟨by rfl, ?_⟩) (by assumption) ?_
      rotate_left 1
      · intro w hSw; (try dsimp only at hSw); go_simp; try with_reducible rfl
      try simp only [Act.put, List.getElem_toArray, List.getElem_cons_succ, List.getElem_cons_zero, List.setIfInBounds_toArray, List.set_cons_zero, List.set_cons_succ]
      refine wpAnyH_take (i := 12) (v := ?_) rfl (by kernel_rfl) (by kernel_rfl) (by kernel_rfl) (fun _ _ _ h => h) (Or.inl ⟨by rfl, ?_⟩) (by assumption) ?_
      rotate_left 1
      · intro w hSw; (try dsimp only at hSw); go_simp; try with_reducible rfl
      try simp only [Act.put, List.getElem_toArray, List.getElem_cons_succ, List.getElem_cons_zero, List.setIfInBounds_toArray, List.set_cons_zero, List.set_cons_succ]
      refine wpAnyH_take (i := 13) (v := ?_) rfl (by kernel_rfl) (by kernel_rfl) (by kernel_rfl) (fun _ _ _ h => h) (Or.inl ⟨by rfl, ?_⟩) (by assumption) ?_
      rotate_left 1
      · intro w hSw; (try dsimp only at hSw); go_simp; try with_reducible rfl
      try simp only [Act.put, List.getElem_toArray, List.getElem_cons_succ, List.getElem_cons_zero, List.setIfInBounds_toArray, List.set_cons_zero, List.set_cons_succ]
      refine wpAnyH_take (i := 14) (v := ?_) rfl (by kernel_rfl) (by kernel_rfl) (by kernel_rfl) (fun _ _ _ h => h) (Or.inl ⟨by rfl, ?_⟩) (by assumption) ?_
      rotate_left 1
      · intro w hSw; (try dsimp only at hSw); go_simp; try with_reducible rfl
      try simp only [Act.put, List.getElem_toArray, List.getElem_cons_succ, List.getElem_cons_zero, List.setIfInBounds_toArray, List.set_cons_zero, List.set_cons_succ]
      refine wpAnyH_ready (rs := [15]) (by kernel_rfl) (by simp) (AllReadyH.cons rfl (fun K hK => ?_) AllReadyH.nil)
      go_simp
      refine hK.out _ _ (f1) (fun hHeld => ?_)
      clear hK K
      try simp only [Act.put, List.getElem_toArray, List.getElem_cons_succ, List.getElem_cons_zero, List.setIfInBounds_toArray, List.set_cons_zero, List.set_cons_succ]
      refine wpAnyH_take (i := 16) (v := ?_) rfl (by kernel_rfl) (by kernel_rfl) (by kernel_rfl) (fun _ _ _ h => h) (Or.inl ⟨by rfl, ?_⟩) (by assumption) ?_
      rotate_left 1
      · intro w hSw; (try dsimp only at hSw); go_simp; try with_reducible rfl
      try simp only [Act.put, List.getElem_toArray, List.getElem_cons_succ, List.getElem_cons_zero, List.setIfInBounds_toArray, List.set_cons_zero, List.set_cons_succ]
      refine wpAnyH_ready (rs := [17]) (by kernel_rfl) (by simp) (AllReadyH.cons rfl (fun K hK => ?_) AllReadyH.nil)
      go_simp
      refine hK.out _ _ (f2) (fun hHeld => ?_)
      clear hK K
      try simp only [Act.put, List.getElem_toArray, List.getElem_cons_succ, List.getElem_cons_zero, List.setIfInBounds_toArray, List.set_cons_zero, List.set_cons_succ]
      refine wpAnyH_done (by kernel_rfl) ?_ _
      go_wp2
      go_roundg (64 - (k + 1))
      case measure => have := HG.out; omega
      case rel => exact ⟨k + 1, by omega, rfl, by go_num, FF.out.1, FF.out.2.1, FF.out.2.2.1, FF.out.2.2.2⟩
    · have e : k = 64 := by omega
      subst e
      rw [mixI_all 54 l 64 HL.out.1] at R4
      rw [mixI_all 92 l 64 HL.out.1] at R5
      have hcI : ∀ u, Below wr.heap.size wr u → (convert 53 9 (.slice (some ⟨g1, 0, none⟩) 64 cap1)).run Tryd.prog u = .ok (.string I) u := fun u hu => by rw [HE.out.1]; exact (R4.call hu).conv
      have hcO : ∀ u, Below wr.heap.size wr u → (convert 53 9 (.slice (some ⟨g2, 0, none⟩) 64 cap2)).run Tryd.prog u = .ok (.string O) u := fun u hu => by rw [HE.out.2]; exact (R5.call hu).conv
      have fact : ∀ u, Below wr.heap.size wr u → Below w.heap.size w u ∧ Tab u ∧ (convert 53 9 (.slice (some ⟨g1, 0, none⟩) 64 cap1)).run Tryd.prog u = .ok (.string I) u ∧ (convert 53 9 (.slice (some ⟨g2, 0, none⟩) 64 cap2)).run Tryd.prog u = .ok (.string O) u :=
        fun u hu => ⟨chain L5 hu, hT.call (chain L5 hu), hcI u hu, hcO u hu⟩
      have hT5 := hT.call L5
      have ll := HL.out
      have hFA := HA.out
      clear hcI hcO R3 R4 R5 HG HE HL hlt
      go_upto_region 12 with (first
        | (go_at_call 11; refine (HS.out _ hT5).mono ?_; rintro e w6 ⟨rfl, b6⟩))
      have K6 := b6.drew
      have f0 := fact _ K6
      have hcX := HX.out.1
      have hcY := HY.out.1
      have zR := HR.out
      clear b6 hT5 hFA ll
      refine wp_region_held_drew (S := fun u => Below w.heap.size w u ∧ Tab u ∧ (convert 53 9 (.slice (some ⟨g1, 0, none⟩) 64 cap1)).run Tryd.prog u = .ok (.string I) u ∧ (convert 53 9 (.slice (some ⟨g2, 0, none⟩) 64 cap2)).run Tryd.prog u = .ok (.string O) u) (by kernel_rfl) f0 (fun hHeld => ?_)
      generalize w6.drew = wd at *
      refine wpAnyH_take (i := 0) (v := ?_) rfl (by kernel_rfl) (by kernel_rfl) (by kernel_rfl) (fun _ _ _ h => h) (Or.inl ⟨by rfl, ?_⟩) (by assumption) ?_
      rotate_left 1
      · intro w hSw; (try dsimp only at hSw); go_simp; try with_reducible rfl
      try simp only [Act.put, List.getElem_toArray, List.getElem_cons_succ, List.getElem_cons_zero, List.setIfInBounds_toArray, List.set_cons_zero, List.set_cons_succ]
      refine wpAnyH_take (i := 1) (v := ?_) rfl (by kernel_rfl) (by kernel_rfl) (by kernel_rfl) (fun _ _ _ h => h) (Or.inl ⟨by rfl, ?_⟩) (by assumption) ?_
      rotate_left 1
      · intro w hSw; (try dsimp only at hSw); go_simp; try with_reducible rfl
      try simp only [Act.put, List.getElem_toArray, List.getElem_cons_succ, List.getElem_cons_zero, List.setIfInBounds_toArray, List.set_cons_zero, List.set_cons_succ]
      refine wpAnyH_take (i := 2) (v := ?_) rfl (by kernel_rfl) (by kernel_rfl) (by kernel_rfl) (fun _ _ _ h => h) (Or.inl ⟨by rfl, ?_⟩) (by assumption) ?_
      rotate_left 1
      · intro w hSw; (try dsimp only at hSw); go_simp; try with_reducible rfl
      try simp only [Act.put, List.getElem_toArray, List.getElem_cons_succ, List.getElem_cons_zero, List.setIfInBounds_toArray, List.set_cons_zero, List.set_cons_succ]
      refine wpAnyH_take (i := 3) (v := ?_) rfl (by kernel_rfl) (by kernel_rfl) (by kernel_rfl) (fun _ _ _ h => h) (Or.inl ⟨by rfl, ?_⟩) (by assumption) ?_
      rotate_left 1
      · intro w hSw; (try dsimp only at hSw); go_simp; try with_reducible rfl
      try simp only [Act.put, List.getElem_toArray, List.getElem_cons_succ, List.getElem_cons_zero, List.setIfInBounds_toArray, List.set_cons_zero, List.set_cons_succ]
      refine wpAnyH_take (i := 4) (v := ?_) rfl (by kernel_rfl) (by kernel_rfl) (by kernel_rfl) (fun _ _ _ h => h) (Or.inl ⟨by rfl, ?_⟩) (by assumption) ?_
      rotate_left 1
      · intro w hSw; (try dsimp only at hSw); go_simp; try with_reducible rfl
      try simp only [Act.put, List.getElem_toArray, List.getElem_cons_succ, List.getElem_cons_zero, List.setIfInBounds_toArray, List.set_cons_zero, List.set_cons_succ]
      refine wpAnyH_take (i := 5) (v := ?_) rfl (by kernel_rfl) (by kernel_rfl) (by kernel_rfl) (fun _ _ _ h => h) (Or.inl ⟨by rfl, ?_⟩) (by assumption) ?_
      rotate_left 1
      · intro w hSw; (try dsimp only at hSw); go_simp; try with_reducible rfl
      try simp only [Act.put, List.getElem_toArray, List.getElem_cons_succ, List.getElem_cons_zero, List.setIfInBounds_toArray, List.set_cons_zero, List.set_cons_succ]
      refine wpAnyH_take (i := 6) (v := ?_) rfl (by kernel_rfl) (by kernel_rfl) (by kernel_rfl) (fun _ _ _ h => h) (Or.inl ⟨by rfl, ?_⟩) (by assumption) ?_
      rotate_left 1
      · intro w hSw; (try dsimp only at hSw); go_simp; try with_reducible rfl
      try simp only [Act.put, List.getElem_toArray, List.getElem_cons_succ, List.getElem_cons_zero, List.setIfInBounds_toArray, List.set_cons_zero, List.set_cons_succ]
      refine wpAnyH_ready (rs := [7]) (by kernel_rfl) (by simp) (AllReadyH.cons rfl (fun K hK => ?_) AllReadyH.nil)
      go_simp
      go_at_call 25
      refine (HX.out.2 _ f0.2.1).mono ?_
      rintro e w7 ⟨rfl, b7⟩
      have K7 := chain K6 b7
      have F7 := fact _ K7
      try simp only []
      refine hK.out _ _ (F7) (fun hHeld => ?_)
      clear hK K
      try simp only [Act.put, List.getElem_toArray, List.getElem_cons_succ, List.getElem_cons_zero, List.setIfInBounds_toArray, List.set_cons_zero, List.set_cons_succ]
      refine wpAnyH_take (i := 8) (v := ?_) rfl (by kernel_rfl) (by kernel_rfl) (by kernel_rfl) (fun _ _ _ h => h) (Or.inl ⟨by rfl, ?_⟩) (by assumption) ?_
      rotate_left 1
      · intro w hSw; (try dsimp only at hSw); go_simp; try with_reducible rfl
      try simp only [Act.put, List.getElem_toArray, List.getElem_cons_succ, List.getElem_cons_zero, List.setIfInBounds_toArray, List.set_cons_zero, List.set_cons_succ]
      refine wpAnyH_ready (rs := [9]) (by kernel_rfl) (by simp) (AllReadyH.cons rfl (fun K hK => ?_) AllReadyH.nil)
      go_simp
      go_at_call 25
      refine (HY.out.2 _ F7.2.1).mono ?_
      rintro e w8 ⟨rfl, b8⟩
      have F8 := fact _ (chain K7 b8)
      try simp only []
      refine hK.out _ _ (F8) (fun hHeld => ?_)
      clear hK K
      try simp only [Act.put, List.getElem_toArray, List.getElem_cons_succ, List.getElem_cons_zero, List.setIfInBounds_toArray, List.set_cons_zero, List.set_cons_succ]
      refine wpAnyH_take (i := 10) (v := ?_) rfl (by kernel_rfl) (by kernel_rfl) (by kernel_rfl) (fun _ _ _ h => h) (Or.inl ⟨by rfl, ?_⟩) (by assumption) ?_
      rotate_left 1
      · intro w hSw; (try dsimp only at hSw); go_simp; try with_reducible rfl
      try simp only [Act.put, List.getElem_toArray, List.getElem_cons_succ, List.getElem_cons_zero, List.setIfInBounds_toArray, List.set_cons_zero, List.set_cons_succ]
      refine wpAnyH_take (i := 11) (v := ?_) rfl (by kernel_rfl) (by kernel_rfl) (by kernel_rfl) (fun _ _ _ h => h) (Or.inl ⟨by rfl, ?_⟩) (by assumption) ?_
      rotate_left 1
      · intro w hSw; (try dsimp only at hSw); go_simp; try with_reducible rfl
      try simp only [Act.put, List.getElem_toArray, List.getElem_cons_succ, List.getElem_cons_zero, List.setIfInBounds_toArray, List.set_cons_zero, List.set_cons_succ]
      refine wpAnyH_take (i := 12) (v := ?_) rfl (by kernel_rfl) (by kernel_rfl) (by kernel_rfl) (fun _ _ _ h => h) (Or.inl ⟨by rfl, ?_⟩) (by assumption) ?_
      rotate_left 1
      · intro w hSw; (try dsimp only at hSw); go_simp; try with_reducible rfl
      try simp only [Act.put, List.getElem_toArray, List.getElem_cons_succ, List.getElem_cons_zero, List.setIfInBounds_toArray, List.set_cons_zero, List.set_cons_succ]
      refine wpAnyH_take (i := 13) (v := ?_) rfl (by kernel_rfl) (by kernel_rfl) (by kernel_rfl) (fun _ _ _ h => h) (Or.inl ⟨by rfl, ?_⟩) (by assumption) ?_
      rotate_left 1
      · intro w hSw; (try dsimp only at hSw); go_simp; try with_reducible rfl
      try simp only [Act.put, List.getElem_toArray, List.getElem_cons_succ, List.getElem_cons_zero, List.setIfInBounds_toArray, List.set_cons_zero, List.set_cons_succ]
      refine wpAnyH_take (i := 14) (v := ?_) rfl (by kernel_rfl) (by kernel_rfl) (by kernel_rfl) (fun _ _ _ h => h) (Or.inl ⟨by rfl, ?_⟩) (by assumption) ?_
      rotate_left 1
      · intro w hSw; (try dsimp only at hSw); go_simp; try with_reducible rfl
      try simp only [Act.put, List.getElem_toArray, List.getElem_cons_succ, List.getElem_cons_zero, List.setIfInBounds_toArray, List.set_cons_zero, List.set_cons_succ]
      refine wpAnyH_take (i := 15) (v := ?_) rfl (by kernel_rfl) (by kernel_rfl) (by kernel_rfl) (fun _ _ _ h => h) (Or.inl ⟨by rfl, ?_⟩) (by assumption) ?_
      rotate_left 1
      · intro w hSw; (try dsimp only at hSw); go_simp; try with_reducible rfl
      try simp only [Act.put, List.getElem_toArray, List.getElem_cons_succ, List.getElem_cons_zero, List.setIfInBounds_toArray, List.set_cons_zero, List.set_cons_succ]
      refine wpAnyH_done (by kernel_rfl) ?_ _
      have T8 := F8.2.1
      have L8 := F8.1
      clear F8 F7 f0 K6 K7 b7 b8 hcX hcY hHeld fact
      obtain ⟨hA, hmx, hF1⟩ := HA.out
      clear hHeld
      have hix : ∀ k, (h : k < R.size) → (R[k].toNat : Int) = (nums R).getD k 0 := fun k h => (nums_at R k h).symm
      have hN := HN.out
      have hrl : (nums R).length = 32 := by rw [nums_len]; exact zR
      have hrb := nums_bd R
      generalize nums R = rl at *
      have HB := hideIt (And.intro hrl hrb)
      have HNN := hideIt hN
      clear hrl hrb hN HN HR HX HY HS HA
      go_upto_region 17 with fail
      go_loopg [13, 14] 8 (fun gk v i wr => ∃ k : Nat, k ≤ 8 ∧ gk = 8 - k ∧ i = .int .i64 k ∧ v = .int .u64 (numB (rl.take k)) ∧ wr = w8)
      case atStart => exact ⟨0, by omega, rfl, rfl, rfl, rfl⟩
      case round =>
        obtain ⟨k, hk, hgk, rfl, rfl, rfl⟩ := hrel
        have HG := hideIt hgk
        clear hgk
        by_cases hlt : k < 8
        · have b2 : (k : Int) < 8 := by omega
          have hs := numB_step rl HB.out.2 k (by have := HB.out.1; omega)
          have hn := numB_bd8 rl HB.out.2 k hlt
          have hb := getD_bd rl HB.out.2 k
          have hi := hix k (by omega)
          have hi32 : (k : Int) < 32 := by omega
          obtain ⟨N2, hN2⟩ : ∃ N2, numB (rl.take (k + 1)) = N2 := ⟨_, rfl⟩
          rw [hN2] at hs
          have HN2 := hideIt hN2
          clear hN2
          generalize numB (rl.take k) = N1 at *
          generalize rl.getD k 0 = x at *
          have hw : IntKind.u64.wrap (N1 * 256) = N1 * 256 := by rw [IntKind.wrap_u64]; omega
          have hw2 : IntKind.u64.wrap (N1 * 256 + x) = N2 := by rw [IntKind.wrap_u64]; omega
          have hwx : IntKind.u64.wrap x = x := by rw [IntKind.wrap_u64]; omega
          clear hix hs
          go_wp2
          go_roundg (8 - (k + 1))
          case measure => have := HG.out; omega
          case rel => exact ⟨k + 1, by omega, rfl, by go_num, by rw [HN2.out], rfl⟩
        · have e : k = 8 := by omega
          subst e
          rw [← HNN.out]
          have cF := HF.out.1
          have cM := HF.out.2
          clear HG hix HNN HF HB hlt
          go_upto_region 20 with fail
          have f0 : Below w.heap.size w wr.drew ∧ Tab wr.drew := ⟨L8.drew, T8⟩
          have keep : ∀ u u', (Below w.heap.size w u ∧ Tab u) → Below u.heap.size u u' → Below w.heap.size w u' ∧ Tab u' := fun u u' h hb => ⟨chain h.1 hb, h.2.call hb⟩
          refine wp_region_held_drew (S := fun u => Below w.heap.size w u ∧ Tab u) (by kernel_rfl) f0 (fun hHeld => ?_)
          generalize wr.drew = wd at *
          refine wpAnyH_take (i := 0) (v := ?_) rfl (by kernel_rfl) (by kernel_rfl) (by kernel_rfl) (fun _ _ _ h => h) (Or.inl ⟨by rfl, ?_⟩) (by assumption) ?_
          rotate_left 1
          · intro w hSw; (try dsimp only at hSw); go_simp; try with_reducible rfl
          try simp only [Act.put, List.getElem_toArray, List.getElem_cons_succ, List.getElem_cons_zero, List.setIfInBounds_toArray, List.set_cons_zero, List.set_cons_succ]
          refine wpAnyH_take (i := 1) (v := ?_) rfl (by kernel_rfl) (by kernel_rfl) (by kernel_rfl) (fun _ _ _ h => h) (Or.inl ⟨by rfl, ?_⟩) (by assumption) ?_
          rotate_left 1
          · intro w hSw; (try dsimp only at hSw); go_simp; try with_reducible rfl
          try simp only [Act.put, List.getElem_toArray, List.getElem_cons_succ, List.getElem_cons_zero, List.setIfInBounds_toArray, List.set_cons_zero, List.set_cons_succ]
          refine wpAnyH_take (i := 2) (v := ?_) rfl (by kernel_rfl) (by kernel_rfl) (by kernel_rfl) (fun _ _ _ h => h) (Or.inl ⟨by rfl, ?_⟩) (by assumption) ?_
          rotate_left 1
          · intro w hSw; (try dsimp only at hSw); go_simp; try with_reducible rfl
          try simp only [Act.put, List.getElem_toArray, List.getElem_cons_succ, List.getElem_cons_zero, List.setIfInBounds_toArray, List.set_cons_zero, List.set_cons_succ]
          refine wpAnyH_take (i := 4) (v := ?_) rfl (by kernel_rfl) (by kernel_rfl) (by kernel_rfl) (fun _ _ _ h => h) (Or.inl ⟨by rfl, ?_⟩) (by assumption) ?_
          rotate_left 1
          · intro w hSw; (try dsimp only at hSw); go_simp; try with_reducible rfl
          try simp only [Act.put, List.getElem_toArray, List.getElem_cons_succ, List.getElem_cons_zero, List.setIfInBounds_toArray, List.set_cons_zero, List.set_cons_succ]
          refine wpAnyH_take (i := 5) (v := ?_) rfl (by kernel_rfl) (by kernel_rfl) (by kernel_rfl) (fun _ _ _ h => h) (Or.inl ⟨by rfl, ?_⟩) (by assumption) ?_
          rotate_left 1
          · intro w hSw; (try dsimp only at hSw); go_simp; try with_reducible rfl
          try simp only [Act.put, List.getElem_toArray, List.getElem_cons_succ, List.getElem_cons_zero, List.setIfInBounds_toArray, List.set_cons_zero, List.set_cons_succ]
          refine wpAnyH_take (i := 6) (v := ?_) rfl (by kernel_rfl) (by kernel_rfl) (by kernel_rfl) (fun _ _ _ h => h) (Or.inl ⟨by rfl, ?_⟩) (by assumption) ?_
          rotate_left 1
          · intro w hSw; (try dsimp only at hSw); go_simp; try with_reducible rfl
          try simp only [Act.put, List.getElem_toArray, List.getElem_cons_succ, List.getElem_cons_zero, List.setIfInBounds_toArray, List.set_cons_zero, List.set_cons_succ]
          refine wpAnyH_ready (rs := [3]) (by kernel_rfl) (by simp) (AllReadyH.cons rfl (fun K hK => ?_) AllReadyH.nil)
          go_simp
          go_at_call 14
          refine (cF _ f0.2).mono ?_
          rintro e w9 ⟨rfl, b9⟩
          have F9 := keep _ _ f0 b9
          try simp only []
          refine hK.out _ _ (F9) (fun hHeld => ?_)
          clear hK K
          try simp only [Act.put, List.getElem_toArray, List.getElem_cons_succ, List.getElem_cons_zero, List.setIfInBounds_toArray, List.set_cons_zero, List.set_cons_succ]
          refine wpAnyH_take (i := 7) (v := ?_) rfl (by kernel_rfl) (by kernel_rfl) (by kernel_rfl) (fun _ _ _ h => h) (Or.inl ⟨by rfl, ?_⟩) (by assumption) ?_
          rotate_left 1
          · intro w hSw; (try dsimp only at hSw); go_simp; try with_reducible rfl
          try simp only [Act.put, List.getElem_toArray, List.getElem_cons_succ, List.getElem_cons_zero, List.setIfInBounds_toArray, List.set_cons_zero, List.set_cons_succ]
          refine wpAnyH_take (i := 8) (v := ?_) rfl (by kernel_rfl) (by kernel_rfl) (by kernel_rfl) (fun _ _ _ h => h) (Or.inl ⟨by rfl, ?_⟩) (by assumption) ?_
          rotate_left 1
          · intro w hSw; (try dsimp only at hSw); go_simp; try with_reducible rfl
          try simp only [Act.put, List.getElem_toArray, List.getElem_cons_succ, List.getElem_cons_zero, List.setIfInBounds_toArray, List.set_cons_zero, List.set_cons_succ]
          refine wpAnyH_take (i := 9) (v := ?_) rfl (by kernel_rfl) (by kernel_rfl) (by kernel_rfl) (fun _ _ _ h => h) (Or.inl ⟨by rfl, ?_⟩) (by assumption) ?_
          rotate_left 1
          · intro w hSw; (try dsimp only at hSw); go_simp; try with_reducible rfl
          try simp only [Act.put, List.getElem_toArray, List.getElem_cons_succ, List.getElem_cons_zero, List.setIfInBounds_toArray, List.set_cons_zero, List.set_cons_succ]
          refine wpAnyH_take (i := 10) (v := ?_) rfl (by kernel_rfl) (by kernel_rfl) (by kernel_rfl) (fun _ _ _ h => h) (Or.inl ⟨by rfl, ?_⟩) (by assumption) ?_
          rotate_left 1
          · intro w hSw; (try dsimp only at hSw); go_simp; try with_reducible rfl
          try simp only [Act.put, List.getElem_toArray, List.getElem_cons_succ, List.getElem_cons_zero, List.setIfInBounds_toArray, List.set_cons_zero, List.set_cons_succ]
          refine wpAnyH_take (i := 12) (v := ?_) rfl (by kernel_rfl) (by kernel_rfl) (by kernel_rfl) (fun _ _ _ h => h) (Or.inl ⟨by rfl, ?_⟩) (by assumption) ?_
          rotate_left 1
          · intro w hSw; (try dsimp only at hSw); go_simp; try with_reducible rfl
          try simp only [Act.put, List.getElem_toArray, List.getElem_cons_succ, List.getElem_cons_zero, List.setIfInBounds_toArray, List.set_cons_zero, List.set_cons_succ]
          refine wpAnyH_ready (rs := [11]) (by kernel_rfl) (by simp) (AllReadyH.cons rfl (fun K hK => ?_) AllReadyH.nil)
          go_simp
          go_at_call 16
          refine (cM _ F9.2).mono ?_
          rintro e wa ⟨rfl, ba⟩
          have FA := keep _ _ F9 ba
          try simp only []
          refine hK.out _ _ (FA) (fun hHeld => ?_)
          clear hK K
          try simp only [Act.put, List.getElem_toArray, List.getElem_cons_succ, List.getElem_cons_zero, List.setIfInBounds_toArray, List.set_cons_zero, List.set_cons_succ]
          refine wpAnyH_take (i := 13) (v := ?_) rfl (by kernel_rfl) (by kernel_rfl) (by kernel_rfl) (fun _ _ _ h => h) (Or.inl ⟨by rfl, ?_⟩) (by assumption) ?_
          rotate_left 1
          · intro w hSw; (try dsimp only at hSw); go_simp; try with_reducible rfl
          try simp only [Act.put, List.getElem_toArray, List.getElem_cons_succ, List.getElem_cons_zero, List.setIfInBounds_toArray, List.set_cons_zero, List.set_cons_succ]
          refine wpAnyH_take (i := 14) (v := ?_) rfl (by kernel_rfl) (by kernel_rfl) (by kernel_rfl) (fun _ _ _ h => h) (Or.inl ⟨by rfl, ?_⟩) (by assumption) ?_
          rotate_left 1
          · intro w hSw; (try dsimp only at hSw); go_simp; try with_reducible rfl
          try simp only [Act.put, List.getElem_toArray, List.getElem_cons_succ, List.getElem_cons_zero, List.setIfInBounds_toArray, List.set_cons_zero, List.set_cons_succ]
          refine wpAnyH_take (i := 15) (v := ?_) rfl (by kernel_rfl) (by kernel_rfl) (by kernel_rfl) (fun _ _ _ h => h) (Or.inl ⟨by rfl, ?_⟩) (by assumption) ?_
          rotate_left 1
          · intro w hSw; (try dsimp only at hSw); go_simp; try with_reducible rfl
          try simp only [Act.put, List.getElem_toArray, List.getElem_cons_succ, List.getElem_cons_zero, List.setIfInBounds_toArray, List.set_cons_zero, List.set_cons_succ]
          refine wpAnyH_done (by kernel_rfl) ?_ _
          clear hHeld
          go_wp2
          go_ret
          exact ⟨rfl, FA.1⟩

theorem hmacDigests_core (H : Type) (enc : TypeId × Value → H) (W : World) (base : Nat) (args : Array Value) (ds gs : List (DataW H)) (before : List MemPlace)
    (hval : ∀ (j : Nat) t v, Tryd.f8.params[j]? = some t → args[j]? = some v → Value.okWide Tryd.prog W .any base t v)
    (hW : DataW.Whole enc Tryd.prog Tryd.f8.params.toList Rows.hmacDigestsSpec.vars false W args.toList ds gs before) (hT : Tab W) :
    gs = [] ∧ ds.length = 3 ∧ Calls Tryd.prog 8 args W (Tells (.bool true) W.heap.size W) := by
  obtain ⟨p, q, hA, hV, -, -, -⟩ := hW
  obtain ⟨rfl, rfl⟩ := trodVars_none hV
  have hA : DataW.TrodAll enc Tryd.prog W 0 (fun _ => true) true Tryd.f8.params.toList args.toList ds p := hA
  rw [Tryd.params8] at hA hval
  obtain ⟨v0, vs0, d0, ds0, p0, ps0, e0, rfl, -, h0, hA⟩ := trodAll_cons hA
  obtain ⟨v1, vs1, d1, ds1, p1, ps1, rfl, rfl, -, h1, hA⟩ := trodAll_cons hA
  obtain ⟨v2, vs2, d2, ds2, p2, ps2, rfl, rfl, -, h2, hA⟩ := trodAll_cons hA
  obtain ⟨rfl, rfl, rfl⟩ := trodAll_nil hA
  obtain rfl : args = #[v0, v1, v2] := Array.ext' e0
  obtain ⟨key, rfl, rfl, rfl, hk⟩ := Go.ChangeMaps.open_string Tryd.underlying9 (hval 0 9 v0 rfl rfl) h0
  obtain ⟨text, rfl, rfl, rfl, ht⟩ := Go.ChangeMaps.open_string Tryd.underlying9 (hval 1 9 v1 rfl rfl) h1
  obtain ⟨n, rfl, -, -, bn⟩ := open_int Tryd.underlying3 (hval 2 3 v2 rfl rfl) h2
  have hn := int_of (x := n) (by simpa using bn)
  refine ⟨rfl, rfl, ?_⟩
  by_cases h : 1000 < key.size ∨ 1000 < text.size
  · exact digests_long key text n h hk ht W hT
  · exact digests_short key text n hn (by omega) (by omega) W hT

set_option maxRecDepth 100000 in
theorem hmacDigests_lifted (os : Os) (started : os.Started) (H : Type) (enc : TypeId × Value → H) :
    ReturnsInHanded {} Tryd.checked os 8 .any (fun w args => (Rows.hmacDigestsSpec.pre enc Tryd.prog Tryd.f8 [] false w args ∧ laidMetH Tryd.prog laidK w) ∧ sizedMet enc Tryd.prog Tryd.f8 (OpenSpec.ofChange Rows.hmacDigestsSpec) false w args)
      (Rows.hmacDigestsSpec.post enc Tryd.prog Tryd.f8 false true false false) := by
  refine returnsInHanded_of_change_and (C := Tryd.checked) (X := fun w _ => laidMetH Tryd.prog laidK w) (fun _ _ _ hh h => h.of_heap hh) own_knob started (by kernel_rfl) Tryd.func8
    (ChangeSpec.witness_shaped (enc := enc) (C := Tryd.checked) (os := os) (X := fun w _ => laidMetH Tryd.prog laidK w) false (World.doorLaid Tryd.prog 14 os) #[.string ⟨#[]⟩, .string ⟨#[]⟩, .int .i64 0] 8 rfl (World.shaped_of_RefB (by kernel_rfl) (by kernel_rfl)) (by kernel_rfl) (by kernel_rfl) (by kernel_rfl) (door_met os _)) ?_
  intro W base args ds gs before hval0 hW _ hwt hL _
  have hval : ∀ (j : Nat) t v, Tryd.f8.params[j]? = some t → args[j]? = some v → Value.okWide Tryd.prog W .any base t v := hval0
  obtain ⟨hg, hlen, hc⟩ := hmacDigests_core H enc W base args ds gs before hval hW (tab_of_laid hL)
  subst hg
  have hr : (Tryd.f8.params.toList.all fun t => Tryd.prog.readableRec t && decide (t < Tryd.prog.types.size)) = true := by kernel_rfl
  have hread : ∀ t ∈ Tryd.f8.params.toList, Tryd.prog.readableRec t = true ∧ t < Tryd.prog.types.size := fun t ht => by
    have h := List.all_eq_true.1 hr t ht
    rw [Bool.and_eq_true, decide_eq_true_eq] at h
    exact h
  refine hc.mono fun e W' ⟨he, hb⟩ => ?_
  subst he
  match ds, hlen with
  | [d0, d1, d2], _ => exact ⟨_, rfl, law_post laid_out Tryd.underlying4 rfl hread rfl hW rfl rfl rfl hb⟩

theorem hmacDigests_holds : Rows.HmacDigestsSaid :=
  OpenClaim.holds_of_wide 8 Tryd.f8 rfl rfl rfl rfl rfl rfl rfl ⟨rfl, rfl, rfl, rfl, rfl⟩ rfl rfl rfl rfl rfl (by kernel_rfl) Tryd.func8 (by kernel_rfl)
    (of_decide_eq_true (by kernel_rfl)) (by unfold Func.isWrapper; first | (rw [if_pos (by decide +kernel)]; kernel_rfl) | (rw [if_neg (by decide +kernel)]; exact ⟨rfl, rfl⟩))
    (fun os started H enc _ => hmacDigests_lifted os started H enc)

theorem hmacDigests_card : Rows.HmacDigestsCardSaid :=
  Claim7.holds_tied_plain_at .later [] [.data] true _ false
    hmacDigests_holds (fun _ h => by cases h) (by kernel_rfl) (fun _ h => by cases h) hmacDigests_row_tie rfl ⟨rfl, rfl⟩ (by kernel_rfl) rfl
    (fun f fn hf hfn => by
      obtain rfl : f = 8 := Option.some.inj ((show Tryd.prog.funcNamed "paymaster/paymasterlaw06.HmacDigests" = some 8 by kernel_rfl).symm.trans hf) |>.symm
      obtain rfl : fn = Tryd.f8 := (Option.some.inj (Tryd.func8.symm.trans hfn)).symm
      exact ⟨by kernel_rfl, fun j t ht => by
        have hm : t ∈ Tryd.f8.params.toList := by simpa using Array.mem_of_getElem? ht
        have hall : (Tryd.f8.params.toList.all fun u => !Tryd.prog.wantsStandIn u) = true := by kernel_rfl
        exact (show Tryd.prog.wantsStandIn t = false by simpa using List.all_eq_true.1 hall t hm)⟩)
    (by kernel_rfl)

end Go.Proofs.YtnlkhabaidncgaaDoor
