/-
  hmac's running one, walked: New, Write, Sum, Copy; of nobody's each answers as the chapter says.
-/
import Derived.Test.YtnlkhabaidncgaaDoorU6Sum
import Derived.Deep.RegionHeld3
namespace Go.Proofs.YtnlkhabaidncgaaDoor
set_option linter.unusedVariables false
set_option linter.unusedSimpArgs false
open Go.RowKit

/-- A running mac by a key that took a text. -/
def MacAt (w : World) (g : Nat) (key : ByteArray) (t : List UInt8) : Prop := ShaIn 47 [.string (maskB 92 key)] w g ((maskB 54 key).data.toList ++ t)
theorem ShaIn.outer {T : TypeId} {O : ByteArray} {w : World} {g : Nat} {t : List UInt8} (h : ShaIn T [.string O] w g t) : w.cell? ⟨g, 11, none⟩ = some (.string O) := by
  obtain ⟨lf, -, h⟩ := h
  have r := h.read 11
  unfold shaW at r
  rw [r]; simp
theorem MacAt.call {w w' : World} {g : Nat} {key : ByteArray} {t : List UInt8} (h : MacAt w g key t) (hb : Below w.heap.size w w') : MacAt w' g key t := ShaIn.call h hb
theorem MacAt.but {w w' : World} {g b : Nat} {key : ByteArray} {t : List UInt8} (h : MacAt w g key t) (hb : But b w w') (hne : g ≠ b) : MacAt w' g key t := ShaIn.but h hb hne
theorem MacAt.inside {w : World} {g : Nat} {key : ByteArray} {t : List UInt8} (h : MacAt w g key t) : g < w.heap.size := ShaIn.inside h
theorem inn_len (key : ByteArray) : (maskB 54 key).data.toList.length = 64 := by
  have := maskB_size 54 key
  simpa using this

set_option maxHeartbeats 1000000 in
theorem mnob_none (w : World) : Calls Tryd.prog 31 #[.pointer none] w (Plain (.bool true) w) := by
  go_enter Tryd.func31, Tryd.ntmps31
  go_wp2
  go_ret
  exact ⟨rfl, rfl⟩
set_option maxHeartbeats 1000000 in
theorem mnob_zero (g : Nat) (w : World) (h : w.cell? ⟨g, 0, none⟩ = some (.bool false)) (hg : g < w.heap.size) : Calls Tryd.prog 31 #[.pointer (some ⟨g, 0, none⟩)] w (Plain (.bool true) w) := by
  have c := len_nob (.pointer (some ⟨g, 0, none⟩)) w (.inr ⟨g, rfl, h, hg⟩)
  go_enter Tryd.func31, Tryd.ntmps31
  go_wp2_with (first | (go_at_call 43; refine c.mono ?_; rintro e w' ⟨rfl, rfl⟩))
  go_ret
  exact ⟨rfl, rfl⟩
set_option maxHeartbeats 1000000 in
theorem mnob_at {T : TypeId} {X : List Value} (t : List UInt8) (ht : 0 < t.length) (g : Nat) (w : World) (h : ShaIn T X w g t) : Calls Tryd.prog 31 #[.pointer (some ⟨g, 0, none⟩)] w (Plain (.bool false) w) := by
  have c := mlen_any t g w h
  have hin := h.inside
  obtain ⟨n, hn⟩ : ∃ n, t.length = n := ⟨_, rfl⟩
  rw [hn] at c ht
  have e : ((n : Int) == 0) = false := by simp; omega
  have e2 : decide ((n : Int) = 0) = false := by simp; omega
  clear h hn
  go_enter Tryd.func31, Tryd.ntmps31
  go_wp2_with (first | (go_at_call 43; refine c.mono ?_; rintro e w' ⟨rfl, rfl⟩))
  go_ret
  exact ⟨rfl, rfl⟩
/-- Nobody's. -/
theorem mnob_yes (p : Value) (w : World) (h : Nob w p) : Calls Tryd.prog 31 #[p] w (Plain (.bool true) w) := by
  rcases h with rfl | ⟨g, rfl, h, hg⟩
  · exact mnob_none w
  · exact mnob_zero g w h hg
set_option maxHeartbeats 1000000 in
theorem macwrite_nob (p : Value) (s : ByteArray) (w : World) (h : Nob w p) : Calls Tryd.prog 21 #[p, .string s] w (Plain (.int .i64 1) w) := by
  have c := mnob_yes p w h
  go_enter Tryd.func21, Tryd.ntmps21
  go_wp2_with (first | (go_at_call 31; refine c.mono ?_; rintro e w' ⟨rfl, rfl⟩))
  go_ret
  exact ⟨rfl, rfl⟩
set_option maxHeartbeats 1000000 in
theorem macsum_nob (p : Value) (w : World) (h : Nob w p) : Calls Tryd.prog 22 #[p] w (Plain (.tuple #[.string ⟨#[]⟩, .int .i64 1]) w) := by
  have c := mnob_yes p w h
  go_enter Tryd.func22, Tryd.ntmps22
  go_wp2_with (first | (go_at_call 31; refine c.mono ?_; rintro e w' ⟨rfl, rfl⟩))
  go_ret2
  exact ⟨rfl, rfl⟩
set_option maxHeartbeats 1000000 in
theorem maccopy_nob (p : Value) (w : World) (h : Nob w p) : Calls Tryd.prog 23 #[p] w (Plain (.pointer none) w) := by
  have c := mnob_yes p w h
  go_enter Tryd.func23, Tryd.ntmps23
  go_wp2_with (first | (go_at_call 31; refine c.mono ?_; rintro e w' ⟨rfl, rfl⟩))
  go_ret
  exact ⟨rfl, rfl⟩

set_option maxHeartbeats 2000000 in
theorem macwrite_any (key : ByteArray) (t : List UInt8) (s : ByteArray) (hs : s.size ≤ 1000000) (ht : t.length ≤ 1000000) (g : Nat) (w : World) (hT : Tab w) (hg0 : g ≠ 0) (h : MacAt w g key t) :
    Calls Tryd.prog 21 #[.pointer (some ⟨g, 0, none⟩), .string s] w fun e w' => e = .returned (.int .i64 0) ∧ MacAt w' g key (t ++ s.data.toList) ∧ But g w w' := by
  have hl := inn_len key
  have hlt : ((maskB 54 key).data.toList ++ t).length = 64 + t.length := by rw [List.length_append, hl]
  have c := mnob_at _ (by omega) g w h
  have cW := write_any _ s (by omega) (by omega) g w hT hg0 h
  have hin := h.inside
  rw [List.append_assoc] at cW
  unfold MacAt
  go_enter Tryd.func21, Tryd.ntmps21
  go_wp2_with (first
    | (go_at_call 31; refine c.mono ?_; rintro e w' ⟨rfl, rfl⟩)
    | (go_at_call 30; refine cW.mono ?_; rintro e w3 ⟨rfl, h3, k3⟩))
  go_ret
  exact ⟨rfl, h3, k3⟩

set_option maxHeartbeats 2000000 in
theorem macsum_any (key : ByteArray) (t : List UInt8) (ht : t.length ≤ 1000000) (g : Nat) (w : World) (hT : Tab w) (h : MacAt w g key t) :
    Calls Tryd.prog 22 #[.pointer (some ⟨g, 0, none⟩)] w (Tells (.tuple #[.string (macB key t), .int .i64 0]) w.heap.size w) := by
  have hl := inn_len key
  have hlt : ((maskB 54 key).data.toList ++ t).length = 64 + t.length := by rw [List.length_append, hl]
  have c := mnob_at _ (by omega) g w h
  have cD := msum_any _ (by omega) g w hT h
  have hin := h.inside
  have zO := maskB_size 92 key
  have zD := innB_size key t
  have eI : innB key t = digB ((maskB 54 key).data.toList ++ t) := rfl
  have eO : macB key t = digB (maskB 92 key ++ innB key t).data.toList := rfl
  rw [← eI] at cD
  clear eI
  have fact : ∀ u, Below w.heap.size w u → u.cell? ⟨g, 11, none⟩ = some (.string (maskB 92 key)) ∧ g < u.heap.size := fun u hu => ⟨ShaIn.outer (MacAt.call h hu), (MacAt.call h hu).inside⟩
  generalize macB key t = R at *
  generalize innB key t = D at *
  generalize maskB 92 key = O at *
  obtain ⟨Y, hY⟩ : ∃ Y, O ++ D = Y := ⟨_, rfl⟩
  have sY : Y.size = 96 := by rw [← hY, ByteArray.size_append, zO, zD]
  have hcY : ∀ u : World, (Op.stringOp .add O D).run Tryd.prog u = .ok (.string Y) u := fun u => by rw [← hY]; exact run_string_add_sum u _ _ (by omega)
  have cY := fun u hu => sum_any Y (by omega) u hu
  rw [hY] at eO
  rw [← eO] at cY
  clear eO hY zO sY hl hlt h
  go_enter Tryd.func22, Tryd.ntmps22
  go_wp2_with (first
    | (go_at_call 31; refine c.mono ?_; rintro e w' ⟨rfl, rfl⟩)
    | (go_at_call 32; refine cD.mono ?_; rintro e w3 ⟨rfl, b3⟩; obtain ⟨x1, x2⟩ := fact _ b3)
    | (go_at_call 25; refine (cY _ (hT.call b3)).mono ?_; rintro e w4 ⟨rfl, b4⟩))
  go_ret2
  exact ⟨rfl, chain b3 b4⟩

/-- What is held while a running one is made or copied. -/
def Hm (w : World) (g : Nat) (O : ByteArray) (u : World) : Prop := Below w.heap.size w u ∧ u.cell? ⟨g, 11, none⟩ = some (.string O) ∧ g < u.heap.size
set_option maxRecDepth 100000 in
set_option maxHeartbeats 2000000 in
theorem maccopy_any (key : ByteArray) (t : List UInt8) (g : Nat) (w : World) (h : MacAt w g key t) :
    Calls Tryd.prog 23 #[.pointer (some ⟨g, 0, none⟩)] w fun e w' => ∃ b, w.heap.size ≤ b ∧ e = .returned (.pointer (some ⟨b, 0, none⟩)) ∧ MacAt w' b key t ∧ Below w.heap.size w w' := by
  have hl := inn_len key
  have c := mnob_at _ (by rw [List.length_append, hl]; omega) g w h
  have cC := fun u hu => copy_any (T := 47) (X := [.string (maskB 92 key)]) ((maskB 54 key).data.toList ++ t) g u hu
  have hin := h.inside
  have fact : ∀ u, Below w.heap.size w u → Below w.heap.size w u ∧ u.cell? ⟨g, 11, none⟩ = some (.string (maskB 92 key)) ∧ g < u.heap.size := fun u hu => ⟨hu, ShaIn.outer (MacAt.call h hu), (MacAt.call h hu).inside⟩
  have hSd : ∀ u, Below w.heap.size w u → ShaIn 47 [.string (maskB 92 key)] u g ((maskB 54 key).data.toList ++ t) := fun u hu => MacAt.call h hu
  have f0 := fact w.drew (Below.refl _ w).drew
  unfold MacAt
  generalize (maskB 54 key).data.toList ++ t = T at *
  generalize maskB 92 key = O at *
  go_enter Tryd.func23, Tryd.ntmps23
  go_upto_region 3 with (first
    | (go_at_call 31; refine c.mono ?_; rintro e w' ⟨rfl, rfl⟩))
  refine wp_region_held_drew (S := fun u => Below w.heap.size w u ∧ u.cell? ⟨g, 11, none⟩ = some (.string O) ∧ g < u.heap.size) (by kernel_rfl) f0 (fun hHeld => ?_)
  refine wpAnyH_take (i := 0) (v := ?_) rfl (by kernel_rfl) (by kernel_rfl) (by kernel_rfl) (fun _ _ _ h => h) (Or.inl ⟨by rfl, ?_⟩) (by assumption) ?_
  rotate_left 1
  · intro w hSw; (try dsimp only at hSw); go_simp; try with_reducible rfl
  try simp only [Act.put, List.getElem_toArray, List.getElem_cons_succ, List.getElem_cons_zero, List.setIfInBounds_toArray, List.set_cons_zero, List.set_cons_succ]
  refine wpAnyH_take (i := 1) (v := ?_) rfl (by kernel_rfl) (by kernel_rfl) (by kernel_rfl) (fun _ _ _ h => h) (Or.inl ⟨by rfl, ?_⟩) (by assumption) ?_
  rotate_left 1
  · intro w hSw; (try dsimp only at hSw); go_simp; try with_reducible rfl
  try simp only [Act.put, List.getElem_toArray, List.getElem_cons_succ, List.getElem_cons_zero, List.setIfInBounds_toArray, List.set_cons_zero, List.set_cons_succ]
  refine wpAnyH_take (i := 2) (v := ?_) rfl (by kernel_rfl) (by kernel_rfl) (by kernel_rfl) (fun _ _ _ h => h) (Or.inl ⟨by rfl, ?_⟩) (by assumption) ?_
  rotate_left 1
  · intro w hSw; (try dsimp only at hSw); go_simp; try with_reducible rfl
  try simp only [Act.put, List.getElem_toArray, List.getElem_cons_succ, List.getElem_cons_zero, List.setIfInBounds_toArray, List.set_cons_zero, List.set_cons_succ]
  refine wpAnyH_take (i := 3) (v := ?_) rfl (by kernel_rfl) (by kernel_rfl) (by kernel_rfl) (fun _ _ _ h => h) (Or.inl ⟨by rfl, ?_⟩) (by assumption) ?_
  rotate_left 1
  · intro w hSw; (try dsimp only at hSw); go_simp; try with_reducible rfl
  try simp only [Act.put, List.getElem_toArray, List.getElem_cons_succ, List.getElem_cons_zero, List.setIfInBounds_toArray, List.set_cons_zero, List.set_cons_succ]
  refine wpAnyH_take (i := 7) (v := ?_) rfl (by kernel_rfl) (by kernel_rfl) (by kernel_rfl) (fun _ _ _ h => h) (Or.inl ⟨by rfl, ?_⟩) (by assumption) ?_
  rotate_left 1
  · intro w hSw; (try dsimp only at hSw); go_simp; try with_reducible rfl
  try simp only [Act.put, List.getElem_toArray, List.getElem_cons_succ, List.getElem_cons_zero, List.setIfInBounds_toArray, List.set_cons_zero, List.set_cons_succ]
  refine wpAnyH_take (i := 8) (v := ?_) rfl (by kernel_rfl) (by kernel_rfl) (by kernel_rfl) (fun _ _ _ h => h) (Or.inl ⟨by rfl, ?_⟩) (by assumption) ?_
  rotate_left 1
  · intro w hSw; (try dsimp only at hSw); go_simp; try with_reducible rfl
  try simp only [Act.put, List.getElem_toArray, List.getElem_cons_succ, List.getElem_cons_zero, List.setIfInBounds_toArray, List.set_cons_zero, List.set_cons_succ]
  refine wpAnyH_take (i := 9) (v := ?_) rfl (by kernel_rfl) (by kernel_rfl) (by kernel_rfl) (fun _ _ _ h => h) (Or.inl ⟨by rfl, ?_⟩) (by assumption) ?_
  rotate_left 1
  · intro w hSw; (try dsimp only at hSw); go_simp; try with_reducible rfl
  try simp only [Act.put, List.getElem_toArray, List.getElem_cons_succ, List.getElem_cons_zero, List.setIfInBounds_toArray, List.set_cons_zero, List.set_cons_succ]
  refine wpAnyH_take (i := 10) (v := ?_) rfl (by kernel_rfl) (by kernel_rfl) (by kernel_rfl) (fun _ _ _ h => h) (Or.inl ⟨by rfl, ?_⟩) (by assumption) ?_
  rotate_left 1
  · intro w hSw; (try dsimp only at hSw); go_simp; try with_reducible rfl
  try simp only [Act.put, List.getElem_toArray, List.getElem_cons_succ, List.getElem_cons_zero, List.setIfInBounds_toArray, List.set_cons_zero, List.set_cons_succ]
  refine wpAnyH_take (i := 11) (v := ?_) rfl (by kernel_rfl) (by kernel_rfl) (by kernel_rfl) (fun _ _ _ h => h) (Or.inl ⟨by rfl, ?_⟩) (by assumption) ?_
  rotate_left 1
  · intro w hSw; (try dsimp only at hSw); go_simp; try with_reducible rfl
  try simp only [Act.put, List.getElem_toArray, List.getElem_cons_succ, List.getElem_cons_zero, List.setIfInBounds_toArray, List.set_cons_zero, List.set_cons_succ]
  refine wpAnyH_ready (rs := [4]) (by kernel_rfl) (by simp) (AllReadyH.cons rfl (fun K hK => ?_) AllReadyH.nil)
  go_simp
  go_at_call 33
  refine (cC _ (hSd _ (Below.refl _ w).drew)).mono ?_
  rintro e w3 ⟨b, hb, rfl, h3, b3⟩
  have L3 : Below w.heap.size w w3 := chain (Below.refl _ w).drew b3
  have F3 := fact _ L3
  obtain ⟨lf, hlf, hbx⟩ := h3
  obtain ⟨r0, r1, r2, r3, r4, r5, r6, r7, r8, r9, r10⟩ := hbx.sha
  have hin3 := hbx.inside
  try simp only []
  refine hK.out _ _ (F3) (fun hHeld => ?_)
  clear hK K
  try simp only [Act.put, List.getElem_toArray, List.getElem_cons_succ, List.getElem_cons_zero, List.setIfInBounds_toArray, List.set_cons_zero, List.set_cons_succ]
  refine wpAnyH_take (i := 5) (v := ?_) rfl (by kernel_rfl) (by kernel_rfl) (by kernel_rfl) (fun _ _ _ h => h) (Or.inl ⟨by rfl, ?_⟩) (by assumption) ?_
  rotate_left 1
  · intro w hSw; (try dsimp only at hSw); go_simp; try with_reducible rfl
  try simp only [Act.put, List.getElem_toArray, List.getElem_cons_succ, List.getElem_cons_zero, List.setIfInBounds_toArray, List.set_cons_zero, List.set_cons_succ]
  refine wpAnyH_ready (rs := [6]) (by kernel_rfl) (by simp) (AllReadyH.cons rfl (fun K hK => ?_) AllReadyH.nil)
  go_simp
  refine hK.out _ _ (F3) (fun hHeld => ?_)
  clear hK K
  try simp only [Act.put, List.getElem_toArray, List.getElem_cons_succ, List.getElem_cons_zero, List.setIfInBounds_toArray, List.set_cons_zero, List.set_cons_succ]
  refine wpAnyH_take (i := 12) (v := ?_) rfl (by kernel_rfl) (by kernel_rfl) (by kernel_rfl) (fun _ _ _ h => h) (Or.inl ⟨by rfl, ?_⟩) (by assumption) ?_
  rotate_left 1
  · intro w hSw; (try dsimp only at hSw); go_simp; try with_reducible rfl
  try simp only [Act.put, List.getElem_toArray, List.getElem_cons_succ, List.getElem_cons_zero, List.setIfInBounds_toArray, List.set_cons_zero, List.set_cons_succ]
  refine wpAnyH_take (i := 13) (v := ?_) rfl (by kernel_rfl) (by kernel_rfl) (by kernel_rfl) (fun _ _ _ h => h) (Or.inl ⟨by rfl, ?_⟩) (by assumption) ?_
  rotate_left 1
  · intro w hSw; (try dsimp only at hSw); go_simp; try with_reducible rfl
  try simp only [Act.put, List.getElem_toArray, List.getElem_cons_succ, List.getElem_cons_zero, List.setIfInBounds_toArray, List.set_cons_zero, List.set_cons_succ]
  refine wpAnyH_ready (rs := [14]) (by kernel_rfl) (by simp) (AllReadyH.cons rfl (fun K hK => ?_) AllReadyH.nil)
  go_simp
  refine hK.out _ _ (fact _ (chainA L3 _)) (fun hHeld => ?_)
  clear hK K
  try simp only [Act.put, List.getElem_toArray, List.getElem_cons_succ, List.getElem_cons_zero, List.setIfInBounds_toArray, List.set_cons_zero, List.set_cons_succ]
  refine wpAnyH_take (i := 15) (v := ?_) rfl (by kernel_rfl) (by kernel_rfl) (by kernel_rfl) (fun _ _ _ h => h) (Or.inl ⟨by rfl, ?_⟩) (by assumption) ?_
  rotate_left 1
  · intro w hSw; (try dsimp only at hSw); go_simp; try with_reducible rfl
  try simp only [Act.put, List.getElem_toArray, List.getElem_cons_succ, List.getElem_cons_zero, List.setIfInBounds_toArray, List.set_cons_zero, List.set_cons_succ]
  refine wpAnyH_done (by kernel_rfl) ?_ _
  have bx := Box.made w3 47 (shaW [.string O] (fin T) lf (T.length : Int))
  clear r0 r1 r2 r3 r4 r5 r6 r7 r8 r9 r10 hHeld
  go_wp2
  go_ret
  exact ⟨w3.heap.size, L3.size, rfl, ⟨lf, hlf, bx⟩, chainA L3 _⟩
end Go.Proofs.YtnlkhabaidncgaaDoor
