/-
  The document's round, walked: bit by bit it is the round.
-/
import Derived.Test.YtlceniljnejjeaaDoorR4Turn
import Derived.Test.YtlceniljnejjeaaDoorU4Unround
import Derived.StillTail
namespace Go.Proofs.YtlceniljnejjeaaDoor
set_option linter.unusedVariables false
set_option linter.unusedSimpArgs false
open Go.RowKit

theorem iv_add5 (a b c d e : B32) : (iv a + iv b + iv c + iv d + iv e) % 4294967296 = iv (a + b + c + d + e) := by
  rw [← iv_addm (a + b + c + d) e, ← iv_addm (a + b + c) d, ← iv_addm (a + b) c, ← iv_addm a b]; omega
theorem iv_add4 (a b c d : B32) : (iv a + iv b + iv c + iv d) % 4294967296 = iv (a + b + c + d) := by
  rw [← iv_addm (a + b + c) d, ← iv_addm (a + b) c, ← iv_addm a b]; omega
theorem iv_add3 (a b c : B32) : (iv a + iv b + iv c) % 4294967296 = iv (a + b + c) := by
  rw [← iv_addm (a + b) c, ← iv_addm a b]; omega
set_option maxHeartbeats 1000000 in
theorem rturned_any (s : St) (kc x : B32) (w : World) : Calls Tryd.prog 41 #[.agg #[.int .u32 (iv s.a), .int .u32 (iv s.b), .int .u32 (iv s.c), .int .u32 (iv s.d), .int .u32 (iv s.e), .int .u32 (iv s.f), .int .u32 (iv s.g), .int .u32 (iv s.h)], .int .u32 (iv kc), .int .u32 (iv x)] w (Tells (.agg #[.int .u32 (iv (turned s kc x).a), .int .u32 (iv (turned s kc x).b), .int .u32 (iv (turned s kc x).c), .int .u32 (iv (turned s kc x).d), .int .u32 (iv (turned s kc x).e), .int .u32 (iv (turned s kc x).f), .int .u32 (iv (turned s kc x).g), .int .u32 (iv (turned s kc x).h)]) w.heap.size w) := by
  have H0 : Has w [(w.heap.size + 1, 23, St.cs ⟨0, 0, 0, 0, 0, 0, 0, 0⟩), (w.heap.size, 23, s.cs)] ((w.alloc (.cells #[.int .u32 (iv s.a), .int .u32 (iv s.b), .int .u32 (iv s.c), .int .u32 (iv s.d), .int .u32 (iv s.e), .int .u32 (iv s.f), .int .u32 (iv s.g), .int .u32 (iv s.h)] 23)).alloc (.cells (St.cs ⟨0, 0, 0, 0, 0, 0, 0, 0⟩) 23)) :=
    ((Has.start w).add 23 #[.int .u32 (iv s.a), .int .u32 (iv s.b), .int .u32 (iv s.c), .int .u32 (iv s.d), .int .u32 (iv s.e), .int .u32 (iv s.f), .int .u32 (iv s.g), .int .u32 (iv s.h)]).addAt 23 (St.cs ⟨0, 0, 0, 0, 0, 0, 0, 0⟩) (by simp)
  go_enter Tryd.func41, Tryd.ntmps41
  go_wp2
  generalize hW : World.alloc (World.alloc _ _) _ = W
  have H : Has w [(w.heap.size + 1, 23, St.cs ⟨0, 0, 0, 0, 0, 0, 0, 0⟩), (w.heap.size, 23, s.cs)] W := by rw [← hW]; exact H0
  clear H0 hW
  obtain ⟨r0, r1, r2, r3, r4, r5, r6, r7⟩ := (H.box 1).st
  have hg1 := (H.box 1).inside
  have hg0 := (H.box 0).inside
  go_quiet (fail)
  go_wp2
  go_quiet (fail)
  generalize hW2 : World.drewN (World.drewN _ _) _ = W2
  have H2 : Has w [(w.heap.size + 1, 23, St.cs ⟨0, 0, 0, 0, 0, 0, 0, 0⟩), (w.heap.size, 23, s.cs)] W2 := by rw [← hW2]; exact (H.drewN _).drewN _
  clear hW2 H r0 r1 r2 r3 r4 r5 r6 r7 hg0 hg1
  go_wp2
  go_loopg [13, 14, 15, 16] 32 (fun gk ch maj bit i wr => ∃ k : Nat, k ≤ 32 ∧ gk = 32 - k ∧ i = .int .i64 k ∧ ch = .int .u32 (lowI (chB s.e s.f s.g) k) ∧ maj = .int .u32 (lowI (majB s.a s.b s.c) k) ∧ bit = .int .u32 ((2 : Int) ^ k % 4294967296) ∧ ∃ n, wr = W2.drewN n)
  case atStart => exact ⟨0, by omega, rfl, rfl, by rw [lowI_zero], by rw [lowI_zero], rfl, 0, rfl⟩
  case round =>
    obtain ⟨k, hk, hgk, rfl, rfl, rfl, rfl, n, rfl⟩ := hrel
    have HG := hideIt hgk
    clear hgk
    by_cases hlt : k < 32
    · have hp : (2 : Int) ^ k * 2 ≤ 4294967296 := by
        have h : (2 : Nat) ^ (k + 1) ≤ 2 ^ 32 := Nat.pow_le_pow_right (by omega) (by omega)
        have e : ((2 ^ (k + 1) : Nat) : Int) = (2 : Int) ^ k * 2 := by rw [Int.natCast_pow]; exact Int.pow_succ _ _
        omega
      have hp1 : 0 < (2 : Int) ^ k := Int.pow_pos (by decide)
      have hch := bit_ch s.e s.f s.g k hlt
      have hmj := bit_maj s.a s.b s.c k
      have q5 := hideIt (lowI_step (chB s.e s.f s.g) k)
      have q6 := hideIt (lowI_step (majB s.a s.b s.c) k)
      have d5 := lowI_bd (chB s.e s.f s.g) k hk
      have d6 := lowI_bd (majB s.a s.b s.c) k hk
      have hsucc := hideIt (Int.pow_succ 2 k)
      have bit : ∀ z : B32, (iv z / (2 : Int) ^ k).tmod 2 = bitI z k := fun z => by
        rw [Int.tmod_eq_emod_of_nonneg (Int.ediv_nonneg (iv_bd z).1 (by omega)), bitI_eq]
      have ta := bit s.a
      have tb := bit s.b
      have tc := bit s.c
      have te := bit s.e
      have tf := bit s.f
      have tg := bit s.g
      have ba := bitI_bd s.a k
      have bb := bitI_bd s.b k
      have bc := bitI_bd s.c k
      have be := bitI_bd s.e k
      have bf := bitI_bd s.f k
      have bg := bitI_bd s.g k
      have da := iv_bd s.a
      have db := iv_bd s.b
      have dc := iv_bd s.c
      have de := iv_bd s.e
      have df := iv_bd s.f
      have dg := iv_bd s.g
      clear bit
      generalize lowI (chB s.e s.f s.g) k = L at *
      generalize lowI (majB s.a s.b s.c) k = M at *
      generalize bitI (chB s.e s.f s.g) k = X at *
      generalize bitI (majB s.a s.b s.c) k = Y at *
      generalize (2 : Int) ^ k = p at *
      generalize bitI s.a k = A at *
      generalize bitI s.b k = B at *
      generalize bitI s.c k = C at *
      generalize bitI s.e k = E at *
      generalize bitI s.f k = F at *
      generalize bitI s.g k = G at *
      rw [show p % 4294967296 = p by omega]
      have s1 : (A + B) % 4294967296 = A + B := by omega
      have s2 : (A + B + C) % 4294967296 = A + B + C := by omega
      have m1 : p * F % 4294967296 = p * F := by rcases bf with h | h <;> rw [h] <;> omega
      have m2 : (L + p * F) % 4294967296 = L + p * F := by rcases bf with h | h <;> rw [h] <;> omega
      have m3 : p * G % 4294967296 = p * G := by rcases bg with h | h <;> rw [h] <;> omega
      have m4 : (L + p * G) % 4294967296 = L + p * G := by rcases bg with h | h <;> rw [h] <;> omega
      have m5 : (M + p) % 4294967296 = M + p := by omega
      have m6 : p * 2 % 4294967296 = p * 2 % 4294967296 := rfl
      have hpz : p ≠ 0 := by omega
      have hp4 : 1 ≤ p := hp1
      obtain ⟨T, hT⟩ : ∃ T, A + B + C = T := ⟨_, rfl⟩
      have ht4 : T ≤ 3 := by omega
      have ht0 : 0 ≤ T := by omega
      have hT2 := hideIt hT
      rw [hT] at s2 hmj
      have s3 : A + B + C = T := hT
      clear hT ba bb bc bf bg m6
      rcases be with rfl | rfl <;> by_cases h2 : 2 ≤ T
      all_goals
        first
          | rw [if_neg (by decide)] at hch
          | rw [if_pos rfl] at hch
        first
          | rw [if_pos h2] at hmj
          | rw [if_neg h2] at hmj
        subst hch hmj
        go_wp2
        go_quiet (fail)
        go_wp2
      all_goals
        go_roundg (32 - (k + 1))
        case measure => have := HG.out; omega
        case rel => exact ⟨k + 1, by omega, rfl, by go_num, by rw [← q5.out], by rw [q6.out]; simp, by rw [show (2 : Int) ^ (k + 1) = p * 2 from hsucc.out], _, rfl⟩
    · have e : k = 32 := by omega
      subst e
      rw [lowI_all, lowI_all]
      clear HG hk hlt
      have H3 := H2.drewN n
      generalize W2.drewN n = W3 at *
      obtain ⟨r0, r1, r2, r3, r4, r5, r6, r7⟩ := (H3.box 1).st
      have hin := (H3.box 1).inside
      have q1 : ∀ (z : B32) (a : Nat) (b : Int) (hb : b = a) (ha : a < 32) (n : Nat), Calls Tryd.prog 56 #[.int .u32 (iv z), .int .i64 b] (W3.drewN n) fun e w' => e = .returned (.int .u32 (iv (rot z a))) ∧ w' = W3.drewN n :=
        fun z a b hb ha n => (rturn_lit z a b hb ha (W3.drewN n)).mono fun e w' h => ⟨h.1, h.2.symm⟩
      have q6 := fun n => q1 s.e 6 6 rfl (by decide) n
      have q11 := fun n => q1 s.e 11 11 rfl (by decide) n
      have q25 := fun n => q1 s.e 25 25 rfl (by decide) n
      have qx := fun n => xor_any (rot s.e 6) (rot s.e 11) (rot s.e 25) (W3.drewN n)
      have y1 : rot s.e 6 ^^^ rot s.e 11 ^^^ rot s.e 25 = sum1 s.e := rfl
      rw [y1] at qx
      clear y1 q1 H2 r0 r1 r2 r3 r4 r5 r6
      go_wp2
      go_quiet ((first
        | (go_at_call_of 56 (Value.int .i64 6); exact Calls.quiet_of_same (q6 _))
        | (go_at_call_of 56 (Value.int .i64 11); exact Calls.quiet_of_same (q11 _))
        | (go_at_call_of 56 (Value.int .i64 25); exact Calls.quiet_of_same (q25 _))
        | (go_at_call 55; exact Calls.quiet_of (qx _))))
      have H4 := H3.drewN nq
      clear H3 q6 q11 q25 qx r7 hin
      generalize W3.drewN nq = W4 at *
      simp only [iv_add5, iv_add4, iv_add3, iv_addm]
      obtain ⟨T, hT⟩ : ∃ T, s.h + sum1 s.e + chB s.e s.f s.g + kc + x = T := ⟨_, rfl⟩
      rw [hT]
      have hnew : turned s kc x = ⟨T + sum0 s.a + majB s.a s.b s.c, s.a, s.b, s.c, s.d + T, s.e, s.f, s.g⟩ := by
        have e0 : s.h + (sum1 s.e + chB s.e s.f s.g) + kc + x = T := by rw [← hT]; grind
        have e1 : T + (sum0 s.a + majB s.a s.b s.c) = T + sum0 s.a + majB s.a s.b s.c := by grind
        simp only [turned, e0, e1]
      have HNEW := hideIt hnew
      clear hnew hT
      generalize majB s.a s.b s.c = MJ at *
      go_wp2
      obtain ⟨-, -, -, r3w, -, -, -, -⟩ := (H4.box 1).st
      have r3 : W4.drew.cell? ⟨w.heap.size, 3, none⟩ = some (.int .u32 (iv s.d)) := r3w
      have r3m : ∀ m, (W4.drewN m).cell? ⟨w.heap.size, 3, none⟩ = some (.int .u32 (iv s.d)) := fun m => r3w
      have r3d : ∀ m, (W4.drew.drewN m).cell? ⟨w.heap.size, 3, none⟩ = some (.int .u32 (iv s.d)) := fun m => r3w
      have p1 : ∀ (z : B32) (a : Nat) (b : Int) (hb : b = a) (ha : a < 32) (u : World), Calls Tryd.prog 56 #[.int .u32 (iv z), .int .i64 b] u fun e w' => e = .returned (.int .u32 (iv (rot z a))) ∧ u = w' :=
        fun z a b hb ha u => rturn_lit z a b hb ha u
      have p2 := fun u => p1 s.a 2 2 rfl (by decide) u
      have p13 := fun u => p1 s.a 13 13 rfl (by decide) u
      have p22 := fun u => p1 s.a 22 22 rfl (by decide) u
      have px := fun u => xor_any (rot s.a 2) (rot s.a 13) (rot s.a 22) u
      have y1 : rot s.a 2 ^^^ rot s.a 13 ^^^ rot s.a 22 = sum0 s.a := rfl
      rw [y1] at px
      have hne : w.heap.size + 1 ≠ w.heap.size := by omega
      have hin0 := (H4.box 0).inside
      obtain ⟨z0, z1, z2, z3, z4, z5, z6, z7, z8⟩ := (H4.box 0).eight
      obtain ⟨c0, c1, c2, c3, c4, c5, c6, c7⟩ := (H4.box 0).st
      have kf : ∀ (u : World) (v0 v1 v2 v3 v4 v5 v6 v7 : Value), u.cell? ⟨w.heap.size, 3, none⟩ = some (.int .u32 (iv s.d)) → (set8v u (w.heap.size + 1) v0 v1 v2 v3 v4 v5 v6 v7).cell? ⟨w.heap.size, 3, none⟩ = some (.int .u32 (iv s.d)) := fun u v0 v1 v2 v3 v4 v5 v6 v7 h =>
        (far8v u hne 3 v0 v1 v2 v3 v4 v5 v6 v7).trans h
      simp only [set8v] at kf
      have KF := hideIt kf
      have R3M := hideIt r3m
      have R3D := hideIt r3d
      have e1 := iv_addm
      clear kf r3m r3d p1 y1 r3w
      go_region_held3 (fun u => u.cell? ⟨w.heap.size, 3, none⟩ = some (.int .u32 (iv s.d)))
        (first
          | with_reducible exact r3
          | with_reducible assumption
          | with_reducible exact R3M.out _
          | with_reducible exact R3D.out _
          | (with_reducible refine KF.out _ _ _ _ _ _ _ _ _ ?_; first | with_reducible exact r3 | with_reducible assumption | with_reducible exact R3M.out _ | with_reducible exact R3D.out _)
          | fail)
        (first
          | (go_at_call_of 56 (Value.int .i64 2); refine (p2 _).mono ?_; rintro e w' ⟨rfl, rfl⟩)
          | (go_at_call_of 56 (Value.int .i64 13); refine (p13 _).mono ?_; rintro e w' ⟨rfl, rfl⟩)
          | (go_at_call_of 56 (Value.int .i64 22); refine (p22 _).mono ?_; rintro e w' ⟨rfl, rfl⟩)
          | (go_at_call 55; refine (px _).mono ?_; rintro e w' ⟨rfl, mm, rfl⟩)
          | fail)
      simp only [iv_add]
      have H5 := H4.drewN (1 + mm)
      clear z0 z1 z2 z3 z4 z5 z6 z7 z8 c0 c1 c2 c3 c4 c5 c6 c7 KF R3M R3D e1 p2 p13 p22 px r3
      generalize W4.drewN (1 + mm) = W5 at *
      generalize hX : World.setCell (World.setCell _ _ _) _ _ = X
      have hbx : Box X (w.heap.size + 1) 23 (turned s kc x).cs := by
        rw [← hX, HNEW.out]; exact Box.wrote8 (H5.box 0) ⟨T + sum0 s.a + MJ, s.a, s.b, s.c, s.d + T, s.e, s.f, s.g⟩
      have hbl : Below w.heap.size w X := by rw [← hX]; exact below_set8 H5.below (by omega) ⟨T + sum0 s.a + MJ, s.a, s.b, s.c, s.d + T, s.e, s.f, s.g⟩
      clear hX H5 H4
      go_wp2
      obtain ⟨x0, x1, x2, x3, x4, x5, x6, x7⟩ := hbx.st
      have hgx := hbx.inside
      exact bodyPost_ret (v := .agg #[.int .u32 (iv (turned s kc x).a), .int .u32 (iv (turned s kc x).b), .int .u32 (iv (turned s kc x).c), .int .u32 (iv (turned s kc x).d), .int .u32 (iv (turned s kc x).e), .int .u32 (iv (turned s kc x).f), .int .u32 (iv (turned s kc x).g), .int .u32 (iv (turned s kc x).h)]) (by simp [results, Tryd.results41, go_sem, x0, x1, x2, x3, x4, x5, x6, x7]) rfl ⟨rfl, hbl⟩
end Go.Proofs.YtlceniljnejjeaaDoor
