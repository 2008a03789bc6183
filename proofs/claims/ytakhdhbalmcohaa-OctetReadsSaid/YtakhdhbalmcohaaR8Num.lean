/-
  The document's own In (paymasterref08), walked: number, Wide, Num, Flag, Text.
-/
import Derived.Test.YtakhdhbalmcohaaR8In
namespace Go.Proofs.Ytakhdhbalmcohaa
set_option linter.unusedVariables false
set_option linter.unusedSimpArgs false
set_option maxRecDepth 10000
open Go.RowKit Go.Shelf

theorem rest_opN (most : Nat) (st : Option (List UInt8)) : restN (nxt (opN most st)) ≤ restN st := by
  refine nxt_rest (fun x hx => ?_)
  cases st with
  | none => cases hx
  | some l => exact ⟨l, rfl, rNum_len (l := l) (d := x.1) (r := x.2) hx⟩
/-- A number's digits and what is left, by way of what is taken. -/
theorem num_taken (most : Nat) (st : Option (List UInt8)) :
    (most < nN st ∧ opN most st = none) ∨ (¬ most < nN st ∧ tkO (nN st) (nxt (opB st)) = none ∧ opN most st = none) ∨
    (∃ d r, ¬ most < nN st ∧ tkO (nN st) (nxt (opB st)) = some (d, r) ∧ d.length = nN st ∧ ((d.head? = some 0 ∧ opN most st = none) ∨ (Mn d ∧ opN most st = some (d, r)))) := by
  cases st with
  | none => exact Or.inr (Or.inl ⟨by show ¬ most < 0; omega, rfl, rfl⟩)
  | some l =>
    cases l with
    | nil => exact Or.inr (Or.inl ⟨by show ¬ most < 0; omega, rfl, rfl⟩)
    | cons c r =>
      have en : nN (some (c :: r)) = c.toNat := rfl
      have eo : opN most (some (c :: r)) = if most < c.toNat ∨ r.length < c.toNat ∨ (r.take c.toNat).head? = some 0 then none else some (r.take c.toNat, r.drop c.toNat) := rfl
      have e1 : nxt (opB (some (c :: r))) = some r := rfl
      rw [en, eo, e1]
      by_cases h1 : most < c.toNat
      · exact Or.inl ⟨h1, if_pos (Or.inl h1)⟩
      · by_cases h2 : r.length < c.toNat
        · exact Or.inr (Or.inl ⟨h1, if_pos h2, if_pos (Or.inr (Or.inl h2))⟩)
        · refine Or.inr (Or.inr ⟨r.take c.toNat, r.drop c.toNat, h1, if_neg h2, by rw [List.length_take]; omega, ?_⟩)
          by_cases h3 : (r.take c.toNat).head? = some 0
          · exact Or.inl ⟨h3, if_pos (Or.inr (Or.inr h3))⟩
          · refine Or.inr ⟨h3, if_neg ?_⟩
            rintro (h | h | h)
            · exact h1 h
            · exact h2 h
            · exact h3 h

set_option maxHeartbeats 4000000 in
theorem r_number (most : Nat) (hm : most ≤ 16) (w : World) (g : Nat) (st : Option (List UInt8)) (hz : restN st ≤ 4611686018427387903) (h : RInS w g st) : Calls Try.prog 26 #[.pointer (some ⟨g, 0, none⟩), .int .i64 most] w fun e w' =>
    e = .returned (.agg #[.int .u64 (hV (opN most st)), .int .u64 (lV (opN most st))]) ∧ RInS w' g (nxt (opN most st)) ∧ Off (One g) w w' := by
  have B0 := Box.made w 32 #[.int .u64 0, .int .u64 0]
  have L0 : Below w.heap.size w (w.alloc (.cells #[.int .u64 0, .int .u64 0] 32)) := (Below.refl _ w).alloc (Nat.le_refl _) _
  have cB := r_byte _ g st hz (h.call L0)
  have hg := h.inside
  rw [bV_nN] at cB
  have hlt := nN_lt st
  have hw : IntKind.u64.wrap (nN st : Int) = (nN st : Int) := by rw [IntKind.wrap_u64]; omega
  have hw2 : IntKind.i64.wrap (nN st : Int) = (nN st : Int) := IntWalk.i64_in _ (by omega)
  rcases num_taken most st with ⟨hv, ho⟩ | ⟨hv, ht, ho⟩ | ⟨d, r, hv, ht, hd, hx⟩
  · rw [ho]
    have hvi : (most : Int) < (nN st : Int) := by omega
    have cS := fun u (hu : RInS u g (nxt (opB st))) => r_spoil u g _ _ hu
    show Calls _ _ _ _ fun e w' => e = .returned (.agg #[.int .u64 0, .int .u64 0]) ∧ RInS w' g none ∧ Off (One g) w w'
    clear ho
    go_enter Try.func26, Try.ntmps26
    go_upto_region 4 with (first
      | (go_at_call 13; refine cB.mono ?_; rintro e w1 ⟨rfl, s1, k1⟩)
      | (go_at_call 28; refine (cS _ s1).mono ?_; rintro e w3 ⟨rfl, t2, k2⟩)
      | fail)
    have r2 := k1.box B0 (fun e => by have : w.heap.size = g := e; omega)
    have o2 := (Off.of (S := One g) L0).trans k1
    clear cB k1 B0 L0
    have r3 := k2.box r2 (fun e => by have : w.heap.size = g := e; omega)
    have o3 := o2.trans k2
    obtain ⟨y0, y1, y2, y3, y4⟩ := r3.two
    go_wp2
    have r5 := (r3.wrote 0 (.int .u64 0)).wrote 1 (.int .u64 0)
    have k5 := ((o3.set_ (p := ⟨w.heap.size, 0, none⟩) (Or.inr (Nat.le_refl _)) (.int .u64 0)).set_ (p := ⟨w.heap.size, 1, none⟩) (Or.inr (Nat.le_refl _)) (.int .u64 0))
    have hrc := t2.off (((Off.refl (One w.heap.size) w3).set_ (p := ⟨w.heap.size, 0, none⟩) (Or.inl rfl) (.int .u64 0)).set_ (p := ⟨w.heap.size, 1, none⟩) (Or.inl rfl) (.int .u64 0)) (fun e => by have : g = w.heap.size := e; omega)
    generalize World.setCell (World.setCell _ _ _) _ _ = Z at *
    obtain ⟨x0, x1, x2, x3, x4⟩ := r5.two
    exact bodyPost_ret (v := .agg #[.int .u64 0, .int .u64 0]) (by simp [results, Try.results26, go_sem, x0, x1]) rfl ⟨rfl, hrc, k5⟩
  · rw [ho]
    have hvi : ¬ ((most : Int) < (nN st : Int)) := by omega
    have cT := fun u hu => r_take (nN st) (by omega) u g (nxt (opB st)) (by have := rest_opB st; omega) hu
    rw [ht] at cT
    have cS := fun u (hu : RInS u g none) => r_spoil u g _ _ hu
    show Calls _ _ _ _ fun e w' => e = .returned (.agg #[.int .u64 0, .int .u64 0]) ∧ RInS w' g none ∧ Off (One g) w w'
    rw [show tV (none : Option (List UInt8 × List UInt8)) = ⟨#[]⟩ from rfl, show nxt (none : Option (List UInt8 × List UInt8)) = none from rfl] at cT
    clear ho ht
    go_enter Try.func26, Try.ntmps26
    go_upto_region 8 with (first
      | (go_at_call 13; refine cB.mono ?_; rintro e w1 ⟨rfl, s1, k1⟩)
      | (go_at_call 24; refine (cT _ s1).mono ?_; rintro e w2 ⟨rfl, s2, k2⟩; obtain ⟨m0, m1, m2, m3, m4⟩ := Box.two (show Box w2 g 28 #[.string ⟨#[]⟩, .bool true] from s2))
      | (go_at_call 28; refine (cS _ s2).mono ?_; rintro e w3 ⟨rfl, t2, k3⟩)
      | fail)
    have r2 := (k2.box (k1.box B0 (fun e => by have : w.heap.size = g := e; omega)) (fun e => by have : w.heap.size = g := e; omega))
    have o2 := ((Off.of (S := One g) L0).trans k1).trans k2
    clear cB k1 k2 B0 L0 m0 m1 m2 m3 m4
    have k2 := k3
    have r3 := k2.box r2 (fun e => by have : w.heap.size = g := e; omega)
    have o3 := o2.trans k2
    obtain ⟨y0, y1, y2, y3, y4⟩ := r3.two
    go_wp2
    have r5 := (r3.wrote 0 (.int .u64 0)).wrote 1 (.int .u64 0)
    have k5 := ((o3.set_ (p := ⟨w.heap.size, 0, none⟩) (Or.inr (Nat.le_refl _)) (.int .u64 0)).set_ (p := ⟨w.heap.size, 1, none⟩) (Or.inr (Nat.le_refl _)) (.int .u64 0))
    have hrc := t2.off (((Off.refl (One w.heap.size) w3).set_ (p := ⟨w.heap.size, 0, none⟩) (Or.inl rfl) (.int .u64 0)).set_ (p := ⟨w.heap.size, 1, none⟩) (Or.inl rfl) (.int .u64 0)) (fun e => by have : g = w.heap.size := e; omega)
    generalize World.setCell (World.setCell _ _ _) _ _ = Z at *
    obtain ⟨x0, x1, x2, x3, x4⟩ := r5.two
    exact bodyPost_ret (v := .agg #[.int .u64 0, .int .u64 0]) (by simp [results, Try.results26, go_sem, x0, x1]) rfl ⟨rfl, hrc, k5⟩
  · have hvi : ¬ ((most : Int) < (nN st : Int)) := by omega
    have cT := fun u hu => r_take (nN st) (by omega) u g (nxt (opB st)) (by have := rest_opB st; omega) hu
    rw [ht] at cT
    rw [show tV (some (d, r)) = ofL d from rfl, show nxt (some (d, r)) = some r from rfl] at cT
    rcases hx with ⟨hx, ho⟩ | ⟨hx, ho⟩
    · rw [ho]
      have cS := fun u (hu : RInS u g (some r)) => r_spoil u g _ _ hu
      show Calls _ _ _ _ fun e w' => e = .returned (.agg #[.int .u64 0, .int .u64 0]) ∧ RInS w' g none ∧ Off (One g) w w'
      obtain ⟨q, rfl⟩ : ∃ q, d = 0 :: q := by
        cases d with
        | nil => cases hx
        | cons y q => injection hx with hx; exact ⟨q, by rw [hx]⟩
      have hs : (ofL (0 :: q)).size = q.length + 1 := by rw [ofL_size, List.length_cons]
      have hp : 0 < (ofL (0 :: q)).size := by rw [hs]; omega
      have hpi : (0 : Int) < ((ofL (0 :: q)).size : Int) := by omega
      have hx0 : (((ofL (0 :: q))[0]'hp).toNat : Int) = 0 := rfl
      clear ho ht hs hx hd
      generalize ofL (0 :: q) = S at *
      go_enter Try.func26, Try.ntmps26
      go_upto_region 8 with (first
        | (go_at_call 13; refine cB.mono ?_; rintro e w1 ⟨rfl, s1, k1⟩)
        | (go_at_call 24; refine (cT _ s1).mono ?_; rintro e w2 ⟨rfl, s2, k2⟩; obtain ⟨m0, m1, m2, m3, m4⟩ := Box.two (show Box w2 g 28 #[.string (ofL r), .bool false] from s2))
        | (go_at_call 28; refine (cS _ s2).mono ?_; rintro e w3 ⟨rfl, t2, k3⟩)
        | fail)
      have r2 := (k2.box (k1.box B0 (fun e => by have : w.heap.size = g := e; omega)) (fun e => by have : w.heap.size = g := e; omega))
      have o2 := ((Off.of (S := One g) L0).trans k1).trans k2
      clear cB k1 k2 B0 L0 m0 m1 m2 m3 m4
      have k2 := k3
      have r3 := k2.box r2 (fun e => by have : w.heap.size = g := e; omega)
      have o3 := o2.trans k2
      obtain ⟨y0, y1, y2, y3, y4⟩ := r3.two
      go_wp2
      have r5 := (r3.wrote 0 (.int .u64 0)).wrote 1 (.int .u64 0)
      have k5 := ((o3.set_ (p := ⟨w.heap.size, 0, none⟩) (Or.inr (Nat.le_refl _)) (.int .u64 0)).set_ (p := ⟨w.heap.size, 1, none⟩) (Or.inr (Nat.le_refl _)) (.int .u64 0))
      have hrc := t2.off (((Off.refl (One w.heap.size) w3).set_ (p := ⟨w.heap.size, 0, none⟩) (Or.inl rfl) (.int .u64 0)).set_ (p := ⟨w.heap.size, 1, none⟩) (Or.inl rfl) (.int .u64 0)) (fun e => by have : g = w.heap.size := e; omega)
      generalize World.setCell (World.setCell _ _ _) _ _ = Z at *
      obtain ⟨x0, x1, x2, x3, x4⟩ := r5.two
      exact bodyPost_ret (v := .agg #[.int .u64 0, .int .u64 0]) (by simp [results, Try.results26, go_sem, x0, x1]) rfl ⟨rfl, hrc, k5⟩
    · rw [ho]
      show Calls _ _ _ _ fun e w' => e = .returned (.agg #[.int .u64 (hiD d), .int .u64 (loD d)]) ∧ RInS w' g (some r) ∧ Off (One g) w w'
      have hd16 : d.length ≤ 16 := by omega
      have hs : (ofL d).size = d.length := ofL_size d
      have hbad : d.length = 0 ∨ (0 < d.length ∧ ∀ hp, ¬ ((((ofL d)[0]'hp).toNat : Int) = 0)) := by
        cases d with
        | nil => exact Or.inl rfl
        | cons y q =>
          refine Or.inr ⟨by rw [List.length_cons]; omega, fun hp e => hx ?_⟩
          have e2 : (y.toNat : Int) = 0 := e
          have : y = 0 := UInt8.toNat_inj.1 (by rw [show ((0 : UInt8).toNat) = 0 from rfl]; omega)
          rw [this]; rfl
      have cF := fun u => rfrom_any (ofL (p16 d)) (by rw [ofL_size, p16_len d hd16]; omega) u
      obtain ⟨eh, el⟩ := p16_parts d hd16
      unfold FromTells at cF
      rw [eh, el] at cF
      have HD16 := hideIt hd16
      have HD := hideIt hd
      clear ho ht eh el hd16
      rcases hbad with hb | ⟨hb, hb2⟩
      · have e : d = [] := List.length_eq_zero_iff.1 hb
        have hsz : (ofL d).size = 0 := by rw [hs, hb]
        have HB := hideIt hb
        clear hs hb hx e hd
        go_enter Try.func26, Try.ntmps26
        go_upto_region 9 with (first
          | (go_at_call 13; refine cB.mono ?_; rintro e w1 ⟨rfl, s1, k1⟩)
          | (go_at_call 24; refine (cT _ s1).mono ?_; rintro e w2 ⟨rfl, s2, k2⟩; obtain ⟨m0, m1, m2, m3, m4⟩ := Box.two (show Box w2 g 28 #[.string (ofL r), .bool false] from s2))
          | fail)
        have r2 := (k2.box (k1.box B0 (fun e => by have : w.heap.size = g := e; omega)) (fun e => by have : w.heap.size = g := e; omega))
        have o2 := ((Off.of (S := One g) L0).trans k1).trans k2
        clear cB k1 k2 B0 L0 m0 m1 m2 m3 m4 hw hw2
        go_loopg [6] (16 - d.length) (fun gk v wr => ∃ j : Nat, j ≤ 16 - d.length ∧ gk = 16 - d.length - j ∧ v = .string (ofL (List.replicate j 0 ++ d)) ∧ wr = w2)
        case atStart => exact ⟨0, Nat.zero_le _, rfl, rfl, rfl⟩
        case round =>
          obtain ⟨j, hj, hgk, rfl, rfl⟩ := hrel
          have HG := hideIt hgk
          have HJ := hideIt hj
          clear hgk hj
          have hjs : (ofL (List.replicate j 0 ++ d)).size = j + d.length := by rw [ofL_size, List.length_append, List.length_replicate]
          by_cases hlt2 : j + d.length < 16
          · have hadd : ∀ u : World, (Op.stringOp .add ⟨#[0]⟩ (ofL (List.replicate j 0 ++ d))).run Try.prog u = .ok (.string (ofL (List.replicate (j + 1) 0 ++ d))) u := fun u => by
              have e9 : ofL (List.replicate (j + 1) 0 ++ d) = (⟨#[0]⟩ : ByteArray) ++ ofL (List.replicate j 0 ++ d) := by
                rw [show (⟨#[0]⟩ : ByteArray) = ofL [0] from rfl, ← ofL_app, List.replicate_succ]; rfl
              rw [e9]
              exact run_string_add_sum u _ _ (by rw [hjs]; show 1 + _ ≤ _; omega)
            obtain ⟨n, hn⟩ : ∃ n, j + d.length = n := ⟨_, rfl⟩
            rw [hn] at hjs hlt2
            have hni : (n : Int) < 16 := by omega
            have HN := hideIt hn
            clear hn
            have HA := hideIt (show ofL (List.replicate (j + 1) 0 ++ d) = ofL (List.replicate (j + 1) 0 ++ d) from rfl)
            generalize ofL (List.replicate j 0 ++ d) = S at *
            go_wp2
            go_roundg (16 - d.length - (j + 1))
            case measure => have := HG.out; have := HN.out; have := HJ.out; omega
            case rel => exact ⟨j + 1, by have := HN.out; have := HJ.out; omega, rfl, rfl, rfl⟩
          · have ej : j = 16 - d.length := by have := HJ.out; omega
            have ep : List.replicate j 0 ++ d = p16 d := by rw [ej]; rfl
            rw [ep] at hjs ⊢
            have hjn : j + d.length = 16 := by have := HD16.out; omega
            rw [hjn] at hjs
            clear ep ej hjn hlt2
            generalize ofL (p16 d) = S at *
            obtain ⟨y0, y1, y2, y3, y4⟩ := r2.two
            go_wp2_with (first
              | (go_at_call 32; refine (cF _).mono ?_; rintro e w3 ⟨rfl, b3⟩
                 have r3 := r2.call b3
                 obtain ⟨y0, y1, y2, y3, y4⟩ := r3.two
                 have t3 := s2.call b3
                 have o3 := o2.call b3))
            have r5 := ((r3.wrote 0 (.int .u64 (hiD d))).wrote 1 (.int .u64 (loD d))).past (.cells #[.int .u64 (hiD d), .int .u64 (loD d)] 32)
            have k5 := (((o3.set_ (p := ⟨w.heap.size, 0, none⟩) (Or.inr (Nat.le_refl _)) (.int .u64 (hiD d))).set_ (p := ⟨w.heap.size, 1, none⟩) (Or.inr (Nat.le_refl _)) (.int .u64 (loD d)))).past (.cells #[.int .u64 (hiD d), .int .u64 (loD d)] 32)
            have hrc := Box.past (t3.off (((Off.refl (One w.heap.size) w3).set_ (p := ⟨w.heap.size, 0, none⟩) (Or.inl rfl) (.int .u64 (hiD d))).set_ (p := ⟨w.heap.size, 1, none⟩) (Or.inl rfl) (.int .u64 (loD d))) (fun e => by have : g = w.heap.size := e; omega)) (.cells #[.int .u64 (hiD d), .int .u64 (loD d)] 32)
            generalize World.alloc (World.setCell (World.setCell _ _ _) _ _) _ = Z at *
            obtain ⟨x0, x1, x2, x3, x4⟩ := r5.two
            exact bodyPost_ret (v := .agg #[.int .u64 (hiD d), .int .u64 (loD d)]) (by simp [results, Try.results26, go_sem, x0, x1]) rfl ⟨rfl, hrc, k5⟩
      · have hsz : (0 : Int) < ((ofL d).size : Int) := by rw [hs]; omega
        have hsp : 0 < (ofL d).size := by rw [hs]; omega
        have hb3 := hb2 hsp
        obtain ⟨x, hxx⟩ : ∃ x, (((ofL d)[0]'hsp).toNat : Int) = x := ⟨_, rfl⟩
        rw [hxx] at hb3
        have hb4 : (x == 0) = false := by rw [beq_eq_false_iff_ne]; exact hb3
        clear hs hb hb2 hx hd hb3
        go_enter Try.func26, Try.ntmps26
        go_upto_region 9 with (first
          | (go_at_call 13; refine cB.mono ?_; rintro e w1 ⟨rfl, s1, k1⟩)
          | (go_at_call 24; refine (cT _ s1).mono ?_; rintro e w2 ⟨rfl, s2, k2⟩; obtain ⟨m0, m1, m2, m3, m4⟩ := Box.two (show Box w2 g 28 #[.string (ofL r), .bool false] from s2))
          | fail)
        have r2 := (k2.box (k1.box B0 (fun e => by have : w.heap.size = g := e; omega)) (fun e => by have : w.heap.size = g := e; omega))
        have o2 := ((Off.of (S := One g) L0).trans k1).trans k2
        clear cB k1 k2 B0 L0 m0 m1 m2 m3 m4 hw hw2
        go_loopg [6] (16 - d.length) (fun gk v wr => ∃ j : Nat, j ≤ 16 - d.length ∧ gk = 16 - d.length - j ∧ v = .string (ofL (List.replicate j 0 ++ d)) ∧ wr = w2)
        case atStart => exact ⟨0, Nat.zero_le _, rfl, rfl, rfl⟩
        case round =>
          obtain ⟨j, hj, hgk, rfl, rfl⟩ := hrel
          have HG := hideIt hgk
          have HJ := hideIt hj
          clear hgk hj
          have hjs : (ofL (List.replicate j 0 ++ d)).size = j + d.length := by rw [ofL_size, List.length_append, List.length_replicate]
          by_cases hlt2 : j + d.length < 16
          · have hadd : ∀ u : World, (Op.stringOp .add ⟨#[0]⟩ (ofL (List.replicate j 0 ++ d))).run Try.prog u = .ok (.string (ofL (List.replicate (j + 1) 0 ++ d))) u := fun u => by
              have e9 : ofL (List.replicate (j + 1) 0 ++ d) = (⟨#[0]⟩ : ByteArray) ++ ofL (List.replicate j 0 ++ d) := by
                rw [show (⟨#[0]⟩ : ByteArray) = ofL [0] from rfl, ← ofL_app, List.replicate_succ]; rfl
              rw [e9]
              exact run_string_add_sum u _ _ (by rw [hjs]; show 1 + _ ≤ _; omega)
            obtain ⟨n, hn⟩ : ∃ n, j + d.length = n := ⟨_, rfl⟩
            rw [hn] at hjs hlt2
            have hni : (n : Int) < 16 := by omega
            have HN := hideIt hn
            clear hn
            have HA := hideIt (show ofL (List.replicate (j + 1) 0 ++ d) = ofL (List.replicate (j + 1) 0 ++ d) from rfl)
            generalize ofL (List.replicate j 0 ++ d) = S at *
            go_wp2
            go_roundg (16 - d.length - (j + 1))
            case measure => have := HG.out; have := HN.out; have := HJ.out; omega
            case rel => exact ⟨j + 1, by have := HN.out; have := HJ.out; omega, rfl, rfl, rfl⟩
          · have ej : j = 16 - d.length := by have := HJ.out; omega
            have ep : List.replicate j 0 ++ d = p16 d := by rw [ej]; rfl
            rw [ep] at hjs ⊢
            have hjn : j + d.length = 16 := by have := HD16.out; omega
            rw [hjn] at hjs
            clear ep ej hjn hlt2
            generalize ofL (p16 d) = S at *
            obtain ⟨y0, y1, y2, y3, y4⟩ := r2.two
            go_wp2_with (first
              | (go_at_call 32; refine (cF _).mono ?_; rintro e w3 ⟨rfl, b3⟩
                 have r3 := r2.call b3
                 obtain ⟨y0, y1, y2, y3, y4⟩ := r3.two
                 have t3 := s2.call b3
                 have o3 := o2.call b3))
            have r5 := ((r3.wrote 0 (.int .u64 (hiD d))).wrote 1 (.int .u64 (loD d))).past (.cells #[.int .u64 (hiD d), .int .u64 (loD d)] 32)
            have k5 := (((o3.set_ (p := ⟨w.heap.size, 0, none⟩) (Or.inr (Nat.le_refl _)) (.int .u64 (hiD d))).set_ (p := ⟨w.heap.size, 1, none⟩) (Or.inr (Nat.le_refl _)) (.int .u64 (loD d)))).past (.cells #[.int .u64 (hiD d), .int .u64 (loD d)] 32)
            have hrc := Box.past (t3.off (((Off.refl (One w.heap.size) w3).set_ (p := ⟨w.heap.size, 0, none⟩) (Or.inl rfl) (.int .u64 (hiD d))).set_ (p := ⟨w.heap.size, 1, none⟩) (Or.inl rfl) (.int .u64 (loD d))) (fun e => by have : g = w.heap.size := e; omega)) (.cells #[.int .u64 (hiD d), .int .u64 (loD d)] 32)
            generalize World.alloc (World.setCell (World.setCell _ _ _) _ _) _ = Z at *
            obtain ⟨x0, x1, x2, x3, x4⟩ := r5.two
            exact bodyPost_ret (v := .agg #[.int .u64 (hiD d), .int .u64 (loD d)]) (by simp [results, Try.results26, go_sem, x0, x1]) rfl ⟨rfl, hrc, k5⟩

set_option maxHeartbeats 1000000 in
theorem r_wide (w : World) (g : Nat) (st : Option (List UInt8)) (hz : restN st ≤ 4611686018427387903) (h : RInS w g st) : Calls Try.prog 17 #[.pointer (some ⟨g, 0, none⟩)] w fun e w' =>
    e = .returned (.agg #[.int .u64 (hV (opN 16 st)), .int .u64 (lV (opN 16 st))]) ∧ RInS w' g (nxt (opN 16 st)) ∧ Off (One g) w w' := by
  have B0 := Box.made w 32 #[.int .u64 0, .int .u64 0]
  have L0 : Below w.heap.size w (w.alloc (.cells #[.int .u64 0, .int .u64 0] 32)) := (Below.refl _ w).alloc (Nat.le_refl _) _
  have c : Calls Try.prog 26 #[.pointer (some ⟨g, 0, none⟩), .int .i64 16] _ _ := r_number 16 (by decide) (w.alloc (.cells #[.int .u64 0, .int .u64 0] 32)) g st hz (h.call L0)
  have hg := h.inside
  generalize opN 16 st = r at *
  obtain ⟨x, hx⟩ : ∃ x, hV r = x := ⟨_, rfl⟩
  obtain ⟨y, hy⟩ : ∃ y, lV r = y := ⟨_, rfl⟩
  rw [hx, hy] at c ⊢
  clear hx hy
  go_enter Try.func17, Try.ntmps17
  go_upto_region 1 with fail
  change Code.wp _ _ _ _ (w.alloc (.cells #[.int .u64 0, .int .u64 0] 32))
  generalize w.alloc (.cells #[.int .u64 0, .int .u64 0] 32) = W at *
  go_wp2_with (first
    | (go_at_call 26; refine c.mono ?_; rintro e w' ⟨rfl, t1, t3⟩
       have r4 := t3.box B0 (fun e => by have : w.heap.size = g := e; omega)
       obtain ⟨y0, y1, y2, y3, y4⟩ := r4.two))
  have r5 := (r4.wrote 0 (.int .u64 x)).wrote 1 (.int .u64 y)
  have k5 := ((((Off.of (S := One g) L0).trans t3).set_ (p := ⟨w.heap.size, 0, none⟩) (Or.inr (Nat.le_refl _)) (.int .u64 x)).set_ (p := ⟨w.heap.size, 1, none⟩) (Or.inr (Nat.le_refl _)) (.int .u64 y))
  have hrc : RInS ((w'.setCell ⟨w.heap.size, 0, none⟩ (.int .u64 x)).setCell ⟨w.heap.size, 1, none⟩ (.int .u64 y)) g (nxt r) :=
    t1.off ((((Off.refl (One w.heap.size) w').set_ (p := ⟨w.heap.size, 0, none⟩) (Or.inl rfl) (.int .u64 x))).set_ (p := ⟨w.heap.size, 1, none⟩) (Or.inl rfl) (.int .u64 y)) (fun e => by have : g = w.heap.size := e; omega)
  generalize World.setCell (World.setCell _ _ _) _ _ = Z at *
  obtain ⟨x0, x1, x2, x3, x4⟩ := r5.two
  exact bodyPost_ret (v := .agg #[.int .u64 x, .int .u64 y]) (by simp [results, Try.results17, go_sem, x0, x1]) rfl ⟨rfl, hrc, k5⟩
set_option maxHeartbeats 1000000 in
theorem r_num (w : World) (g : Nat) (st : Option (List UInt8)) (hz : restN st ≤ 4611686018427387903) (h : RInS w g st) : Calls Try.prog 15 #[.pointer (some ⟨g, 0, none⟩)] w fun e w' =>
    e = .returned (.int .u64 (lV (opN 8 st))) ∧ RInS w' g (nxt (opN 8 st)) ∧ Off (One g) w w' := by
  have c : Calls Try.prog 26 #[.pointer (some ⟨g, 0, none⟩), .int .i64 8] w _ := r_number 8 (by decide) w g st hz h
  generalize opN 8 st = r at *
  generalize hV r = x at *
  generalize lV r = y at *
  go_enter Try.func15, Try.ntmps15
  go_upto_region 2 with (first
    | (go_at_call 26; refine c.mono ?_; rintro e w' ⟨rfl, s1, k1⟩)
    | fail)
  have B1 := Box.made w' 32 #[.int .u64 x, .int .u64 y]
  have s2 : RInS (w'.alloc (.cells #[.int .u64 x, .int .u64 y] 32)) g (nxt r) := s1.call ((Below.refl _ w').alloc (Nat.le_refl _) _)
  have k2 := k1.past (.cells #[.int .u64 x, .int .u64 y] 32)
  change Code.wp _ _ _ _ (w'.alloc (.cells #[.int .u64 x, .int .u64 y] 32))
  generalize w'.alloc (.cells #[.int .u64 x, .int .u64 y] 32) = W at *
  obtain ⟨y0, y1, y2, y3, y4⟩ := B1.two
  go_wp2
  go_ret
  exact ⟨rfl, s2, k2⟩
theorem flag_parts (st : Option (List UInt8)) : (1 < nN st ∧ opF st = none) ∨ (¬ 1 < nN st ∧ nxt (opF st) = nxt (opB st) ∧ fV (opF st) = decide (nN st = 1)) := by
  cases st with
  | none => exact Or.inr ⟨by show ¬ 1 < 0; omega, rfl, rfl⟩
  | some l => cases l with
    | nil => exact Or.inr ⟨by show ¬ 1 < 0; omega, rfl, rfl⟩
    | cons c r =>
      have en : nN (some (c :: r)) = c.toNat := rfl
      have eo : opF (some (c :: r)) = if 1 < c.toNat then none else some (decide (c.toNat = 1), r) := rfl
      rw [en, eo]
      by_cases h : 1 < c.toNat
      · exact Or.inl ⟨h, if_pos h⟩
      · rw [if_neg h]
        exact Or.inr ⟨h, rfl, rfl⟩
set_option maxHeartbeats 1000000 in
theorem r_flag (w : World) (g : Nat) (st : Option (List UInt8)) (hz : restN st ≤ 4611686018427387903) (h : RInS w g st) : Calls Try.prog 19 #[.pointer (some ⟨g, 0, none⟩)] w fun e w' =>
    e = .returned (.bool (fV (opF st))) ∧ RInS w' g (nxt (opF st)) ∧ Off (One g) w w' := by
  have cB := r_byte w g st hz h
  rw [bV_nN] at cB
  rcases flag_parts st with ⟨hv, ho⟩ | ⟨hv, h1, h2⟩
  · have hvi : (1 : Int) < (nN st : Int) := by omega
    have cS := fun u (hu : RInS u g (nxt (opB st))) => r_spoil u g _ _ hu
    rw [ho]
    show Calls _ _ _ _ fun e w' => e = .returned (.bool false) ∧ RInS w' g none ∧ Off (One g) w w'
    clear ho
    go_enter Try.func19, Try.ntmps19
    go_wp2_with (first
      | (go_at_call 13; refine cB.mono ?_; rintro e w1 ⟨rfl, s1, k1⟩)
      | (go_at_call 28; refine (cS _ s1).mono ?_; rintro e w2 ⟨rfl, s2, k2⟩))
    go_ret
    exact ⟨rfl, s2, k1.trans k2⟩
  · have hvi : ¬ ((1 : Int) < (nN st : Int)) := by omega
    have hq : ((nN st : Int) == 1) = decide (nN st = 1) := by
      by_cases e : nN st = 1
      · rw [decide_eq_true e, e]; rfl
      · rw [decide_eq_false e, beq_eq_false_iff_ne]; omega
    rw [h1, h2]
    rw [← hq]
    clear h1 h2 hq hv
    generalize (nN st : Int) = x at *
    go_enter Try.func19, Try.ntmps19
    go_wp2_with (first
      | (go_at_call 13; refine cB.mono ?_; rintro e w1 ⟨rfl, s1, k1⟩))
    go_ret
    exact ⟨rfl, s1, k1⟩
theorem text_taken (m : Nat) (st : Option (List UInt8)) : (m < zN st ∧ opT m st = none) ∨ (¬ m < zN st ∧ opT m st = tkO (zN st) (nxt (opN 8 st))) := by
  have eo : opT m st = (opN 8 st).bind fun x => if m < beN x.1 ∨ x.2.length < beN x.1 then none else some (x.2.take (beN x.1), x.2.drop (beN x.1)) := by
    cases st with
    | none => rfl
    | some l =>
      show rText m l = (rNum 8 l).bind _
      unfold rText
      cases rNum 8 l with
      | none => rfl
      | some x => obtain ⟨d, r⟩ := x; rfl
  rw [eo]
  unfold zN
  cases h : opN 8 st with
  | none => exact Or.inr ⟨by show ¬ m < 0; omega, rfl⟩
  | some x =>
    obtain ⟨d, r⟩ := x
    show (m < beN d ∧ (if m < beN d ∨ r.length < beN d then none else some (r.take (beN d), r.drop (beN d))) = none) ∨
      (¬ m < beN d ∧ (if m < beN d ∨ r.length < beN d then none else some (r.take (beN d), r.drop (beN d))) = if r.length < beN d then none else some (r.take (beN d), r.drop (beN d)))
    by_cases h1 : m < beN d
    · exact Or.inl ⟨h1, if_pos (Or.inl h1)⟩
    · refine Or.inr ⟨h1, ?_⟩
      by_cases h2 : r.length < beN d
      · rw [if_pos (Or.inr h2), if_pos h2]
      · rw [if_neg (by rintro (h | h); exact h1 h; exact h2 h), if_neg h2]
set_option maxHeartbeats 2000000 in
theorem r_text_pos (m : Nat) (hm2 : m < 9223372036854775808) (w : World) (g : Nat) (st : Option (List UInt8)) (hz : restN st ≤ 4611686018427387903) (h : RInS w g st) : Calls Try.prog 21 #[.pointer (some ⟨g, 0, none⟩), .int .i64 m] w fun e w' =>
    e = .returned (.string (tV (opT m st))) ∧ RInS w' g (nxt (opT m st)) ∧ Off (One g) w w' := by
  have hw : IntKind.u64.wrap (m : Int) = (m : Int) := by rw [IntKind.wrap_u64]; omega
  have hneg : ¬ ((m : Int) < 0) := by omega
  have hge : (0 : Int) ≤ (m : Int) := by omega
  have hmod : (m : Int) % 18446744073709551616 = (m : Int) := by omega
  have cN := r_num w g st hz h
  rw [lV_zN] at cN
  have hz64 : zN st < 18446744073709551616 := by
    have := (lV_word 8 st).2
    rw [lV_zN] at this
    omega
  have hz0 := rest_opN 8 st
  rcases text_taken m st with ⟨hv, ho⟩ | ⟨hv, ho⟩
  · have hvi : (m:Int) < (zN st : Int) := by (try have := HM.out); omega
    have cS := fun u (hu : RInS u g (nxt (opN 8 st))) => r_spoil u g _ _ hu
    rw [ho]
    show Calls _ _ _ _ fun e w' => e = .returned (.string ⟨#[]⟩) ∧ RInS w' g none ∧ Off (One g) w w'
    clear ho hv
    generalize zN st = z at *
    go_enter Try.func21, Try.ntmps21
    go_wp2_with (first
      | (go_at_call 15; refine cN.mono ?_; rintro e w1 ⟨rfl, s1, k1⟩)
      | (go_at_call 28; refine (cS _ s1).mono ?_; rintro e w2 ⟨rfl, s2, k2⟩))
    go_ret
    exact ⟨rfl, s2, k1.trans k2⟩
  · have hvi : ¬ ((m:Int) < (zN st : Int)) := by (try have := HM.out); omega
    have cT := fun u (hu : RInS u g (nxt (opN 8 st))) => r_take (zN st) hz64 u g _ (by omega) hu
    rw [← ho] at cT
    clear ho hv
    generalize zN st = z at *
    generalize tV (opT m st) = T at *
    generalize nxt (opT m st) = N at *
    go_enter Try.func21, Try.ntmps21
    go_wp2_with (first
      | (go_at_call 15; refine cN.mono ?_; rintro e w1 ⟨rfl, s1, k1⟩)
      | (go_at_call 24; refine (cT _ s1).mono ?_; rintro e w2 ⟨rfl, s2, k2⟩))
    go_ret
    exact ⟨rfl, s2, k1.trans k2⟩
set_option maxHeartbeats 2000000 in
theorem r_text_neg (mi : Int) (hneg : mi < 0) (m : Nat) (hm : 0 = m) (w : World) (g : Nat) (st : Option (List UInt8)) (hz : restN st ≤ 4611686018427387903) (h : RInS w g st) : Calls Try.prog 21 #[.pointer (some ⟨g, 0, none⟩), .int .i64 mi] w fun e w' =>
    e = .returned (.string (tV (opT m st))) ∧ RInS w' g (nxt (opT m st)) ∧ Off (One g) w w' := by
  have hge : ¬ ((0 : Int) ≤ mi) := by omega
  have cN := r_num w g st hz h
  rw [lV_zN] at cN
  have hz0 := rest_opN 8 st
  rcases text_taken m st with ⟨hv, ho⟩ | ⟨hv, ho⟩
  · have hvi : (0 : Int) < (zN st : Int) := by omega
    have cS := fun u (hu : RInS u g (nxt (opN 8 st))) => r_spoil u g _ _ hu
    rw [ho]
    show Calls _ _ _ _ fun e w' => e = .returned (.string ⟨#[]⟩) ∧ RInS w' g none ∧ Off (One g) w w'
    clear ho hv hm
    generalize zN st = z at *
    go_enter Try.func21, Try.ntmps21
    go_wp2_with (first
      | (go_at_call 15; refine cN.mono ?_; rintro e w1 ⟨rfl, s1, k1⟩)
      | (go_at_call 28; refine (cS _ s1).mono ?_; rintro e w2 ⟨rfl, s2, k2⟩))
    go_ret
    exact ⟨rfl, s2, k1.trans k2⟩
  · have e0 : zN st = 0 := by omega
    rw [e0] at ho cN
    have cT : ∀ u, RInS u g (nxt (opN 8 st)) → Calls Try.prog 24 #[.pointer (some ⟨g, 0, none⟩), .int .u64 0] u fun e w' => e = .returned (.string (tV (tkO 0 (nxt (opN 8 st))))) ∧ RInS w' g (nxt (tkO 0 (nxt (opN 8 st)))) ∧ Off (One g) u w' :=
      fun u hu => r_take 0 (by decide) u g _ (by omega) hu
    have cN0 : Calls Try.prog 15 #[.pointer (some ⟨g, 0, none⟩)] w fun e w' => e = .returned (.int .u64 0) ∧ RInS w' g (nxt (opN 8 st)) ∧ Off (One g) w w' := cN
    rw [← ho] at cT
    clear ho hv hm e0 cN
    generalize tV (opT m st) = T at *
    generalize nxt (opT m st) = N at *
    go_enter Try.func21, Try.ntmps21
    go_wp2_with (first
      | (go_at_call 15; refine cN0.mono ?_; rintro e w1 ⟨rfl, s1, k1⟩)
      | (go_at_call 24; refine (cT _ s1).mono ?_; rintro e w2 ⟨rfl, s2, k2⟩))
    go_ret
    exact ⟨rfl, s2, k1.trans k2⟩
theorem r_text (mi : Int) (hm : mi < 9223372036854775808) (w : World) (g : Nat) (st : Option (List UInt8)) (hz : restN st ≤ 4611686018427387903) (h : RInS w g st) : Calls Try.prog 21 #[.pointer (some ⟨g, 0, none⟩), .int .i64 mi] w fun e w' =>
    e = .returned (.string (tV (opT mi.toNat st))) ∧ RInS w' g (nxt (opT mi.toNat st)) ∧ Off (One g) w w' := by
  by_cases hn : mi < 0
  · rw [show mi.toNat = 0 by omega]
    exact r_text_neg mi hn 0 rfl w g st hz h
  · have := r_text_pos mi.toNat (by omega) w g st hz h
    rw [show ((mi.toNat : Nat) : Int) = mi by omega] at this
    exact this
end Go.Proofs.Ytakhdhbalmcohaa
