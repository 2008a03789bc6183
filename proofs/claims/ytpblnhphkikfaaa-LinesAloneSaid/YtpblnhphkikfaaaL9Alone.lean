/-
  The law LinesAlone: what is wrong with a line hangs on its own bytes alone; the first of all with which something is wrong is told, whatever comes behind. Conditions: none.
-/
import Derived.Test.YtpblnhphkikfaaaD9Back
import Derived.Test.YtpblnhphkikfaaaU9Awake
import Derived.Test.YtpblnhphkikfaaaW0Lift
import Derived.ChangeMaps
namespace Go.Proofs.Ytpblnhphkikfaaa
set_option linter.unusedVariables false
set_option linter.unusedSimpArgs false
set_option maxRecDepth 10000
open Go.ChangeShapes Go.WideShapes Go.ChangeAt Go.RowKit

set_option maxHeartbeats 2000000 in
theorem lalone_long (a b : ByteArray) (h : 1500 < a.size ∨ 1500 < b.size) (w : World) :
    Calls Try.prog 8 #[.string a, .string b] w (Tells (.bool true) w.heap.size w) := by
  have cA := awake_any w
  by_cases h1 : 1500 < a.size
  · have h1i : (1500 : Int) < (a.size : Int) := by omega
    clear h
    go_enter Try.func8, Try.ntmps8
    go_wp2_with (first | (go_at_call 25; refine cA.mono ?_; rintro e w1 ⟨rfl, b1⟩))
    go_ret
    exact ⟨rfl, b1⟩
  · have h2 : (1500 : Int) < (b.size : Int) := by omega
    have h1i : ¬ ((1500 : Int) < (a.size : Int)) := by omega
    clear h
    go_enter Try.func8, Try.ntmps8
    go_wp2_with (first | (go_at_call 25; refine cA.mono ?_; rintro e w1 ⟨rfl, b1⟩))
    go_ret
    exact ⟨rfl, b1⟩

theorem check_line (x : List UInt8) (hx : (10 : UInt8) ∉ x) (hs : x.length ≤ 1000000) (u : World) :
    Calls Try.prog 15 #[.string (bA x)] u (Tells (.tuple #[.int .i64 (if wrongL x = 0 then 0 else 1 : Nat), .int .i64 (wrongL x)]) u.heap.size u) := by
  have c := check_any (bA x) (by rw [bA_size]; exact hs) u
  rw [bA_list, linesL, split_none hx] at c
  have e : firstW (numb 1 [x]) = (if wrongL x = 0 then 0 else 1, wrongL x) := by
    rw [firstW_step]
    by_cases h : wrongL x = 0
    · rw [if_pos h, if_pos h, h]; rfl
    · rw [if_neg h, if_neg h]
  rw [e] at c
  exact c

set_option maxRecDepth 100000 in
set_option maxHeartbeats 8000000 in
theorem lalone_short (a b : ByteArray) (ha : a.size ≤ 1500) (hb' : b.size ≤ 1500) (w : World) :
    Calls Try.prog 8 #[.string a, .string b] w (Tells (.bool true) w.heap.size w) := by
  have cA := awake_any w
  obtain ⟨la, hla⟩ : ∃ la, splitL a.data.toList = la := ⟨_, rfl⟩
  obtain ⟨lb, hlb⟩ : ∃ lb, splitL b.data.toList = lb := ⟨_, rfl⟩
  have hadd1 : ∀ u : World, (Op.stringOp .add a ⟨#[10]⟩).run Try.prog u = .ok (.string (bA (a.data.toList ++ [10]))) u := fun u => by
    have := add_at a.data.toList [10] (by rw [ba_size]; show _ + 1 ≤ _; omega) a ⟨#[10]⟩ (bA_of a) rfl u
    exact this
  have hadd2 : ∀ u : World, (Op.stringOp .add (bA (a.data.toList ++ [10])) b).run Try.prog u = .ok (.string (bA (a.data.toList ++ [10] ++ b.data.toList))) u := fun u => by
    have := add_at (a.data.toList ++ [10]) b.data.toList (by rw [List.length_append, ba_size, ba_size]; show _ + 1 + _ ≤ _; omega) _ b rfl (bA_of b) u
    exact this
  have hsp : splitL (bA (a.data.toList ++ [10] ++ b.data.toList)).data.toList = la ++ lb := by
    rw [bA_list, List.append_assoc]
    show splitL (a.data.toList ++ 10 :: b.data.toList) = _
    rw [split_mid, hla, hlb]
  have hQs : (bA (a.data.toList ++ [10] ++ b.data.toList)).size ≤ 3001 := by rw [bA_size, List.length_append, List.length_append, ba_size, ba_size]; show _ + 1 + _ ≤ _; omega
  have hmem := split_mem (bA (a.data.toList ++ [10] ++ b.data.toList)).data.toList
  have hno := split_no (bA (a.data.toList ++ [10] ++ b.data.toList)).data.toList
  have hlen := split_len (bA (a.data.toList ++ [10] ++ b.data.toList)).data.toList
  have hcl := List.count_le_length (l := (bA (a.data.toList ++ [10] ++ b.data.toList)).data.toList) (a := (10 : UInt8))
  generalize bA (a.data.toList ++ [10]) = Q1 at *
  generalize bA (a.data.toList ++ [10] ++ b.data.toList) = Q at *
  rw [ba_size] at hmem hcl
  have cA1 := fun u => all_at a (by omega) la hla u
  have cA2 := fun u => all_at b (by omega) lb hlb u
  have cA3 := fun u => all_at Q (by omega) (la ++ lb) hsp u
  have cQ := fun u => check_any Q (by omega) u
  rw [linesL, hsp] at cQ
  rw [hsp] at hmem hno hlen
  have HM := hideIt hmem
  have HN := hideIt hno
  obtain ⟨N, hN⟩ : ∃ N, (la ++ lb).length = N := ⟨_, rfl⟩
  have hNs : la.length + lb.length = N := by rw [← hN, List.length_append]
  have hNw : IntKind.i64.wrap ((la.length : Int) + (lb.length : Int)) = (N : Int) := by rw [IntKind.wrap_i64]; omega
  have hNb : N ≤ 3002 := by omega
  rw [hN] at cA3
  have hai : ¬ ((1500 : Int) < (a.size : Int)) := by omega
  have hbi : ¬ ((1500 : Int) < (b.size : Int)) := by omega
  clear hmem hno hlen hcl hsp hla hlb
  go_enter Try.func8, Try.ntmps8
  go_upto_region 7 with (first
    | (go_at_call 25; refine cA.mono ?_; rintro e w1 ⟨rfl, b1⟩)
    | (go_at_call 10; (with_reducible refine (cA1 _).mono ?_); rintro e w2 ⟨ga, ca, rfl, RA, b2⟩; clear cA1)
    | (go_at_call 10; (with_reducible refine (cA2 _).mono ?_); rintro e w3 ⟨gb, cb, rfl, RB, b3⟩; clear cA2)
    | (go_at_call 10; (with_reducible refine (cA3 _).mono ?_); rintro e w4 ⟨gc, cc, rfl, RC, b4⟩; clear cA3))
  have L4 := chain (chain (chain b1 b2) b3) b4
  have RA := (RA.call b3).call b4
  have RB := RB.call b4
  clear b1 b2 b3 b4 cA
  go_wp2
  go_loopg [8, 9, 10, 11, 12, 13] N (fun gk f t i p o e wr => ∃ k : Nat, k ≤ N ∧ gk = N - k ∧ i = .int .i64 k ∧ f = .int .i64 (firstW (numb 1 ((la ++ lb).take k))).1 ∧ t = .int .i64 (firstW (numb 1 ((la ++ lb).take k))).2 ∧ Below w4.heap.size w4 wr)
  case atStart => exact ⟨0, by omega, rfl, rfl, rfl, rfl, Below.refl _ _⟩
  case round =>
    obtain ⟨k, hk, hgk, rfl, rfl, rfl, hb⟩ := hrel
    have HG := hideIt hgk
    clear hgk
    obtain ⟨K1, hK1⟩ : ∃ K1, k + 1 = K1 := ⟨_, rfl⟩
    have hkk : IntKind.i64.wrap ((k : Int) + 1) = (K1 : Int) := by rw [IntKind.wrap_i64]; omega
    have HK1 := hideIt hK1
    by_cases hlt : k < N
    · have hlti : (k : Int) < (N : Int) := by omega
      obtain ⟨x, hx⟩ : ∃ x, (la ++ lb)[k]? = some x := ⟨_, List.getElem?_eq_getElem (by omega)⟩
      have hxm := List.mem_of_getElem? hx
      have hxno := HN.out x hxm
      have hxs : x.length ≤ 1000000 := by have := HM.out x hxm; omega
      have B0 := Box.made wr 28 #[.int .i64 0, .string ⟨#[]⟩, .int .u8 0, .int .i64 0]
      have b0 := Below.alloc (Below.refl wr.heap.size wr) (Nat.le_refl _) (.cells #[.int .i64 0, .string ⟨#[]⟩, .int .u8 0, .int .i64 0] 28)
      obtain ⟨nb, hnb⟩ : ∃ nb, wr.heap.size = nb := ⟨_, rfl⟩
      have hnw : w4.heap.size ≤ nb := by rw [← hnb]; exact hb.size
      have hbY := chain hb b0
      have fr0 := B0.free 0
      have fr1 := B0.free 1
      have fr2 := B0.free 2
      have fr3 := B0.free 3
      have in0 := B0.inside
      have z0 := B0.read 0
      have z1 := B0.read 1
      have z2 := B0.read 2
      have z3 := B0.read 3
      rw [hnb] at B0 fr0 fr1 fr2 fr3 in0 z0 z1 z2 z3
      have F0 : ∀ v0 v1 v2 v3 : Value, Box ((((wr.alloc (.cells #[.int .i64 0, .string ⟨#[]⟩, .int .u8 0, .int .i64 0] 28)).setCell ⟨nb, 0, none⟩ v0).setCell ⟨nb, 1, none⟩ v1 |>.setCell ⟨nb, 2, none⟩ v2).setCell ⟨nb, 3, none⟩ v3) nb 28 #[v0, v1, v2, v3] := fun v0 v1 v2 v3 =>
        (((B0.wrote 0 v0).wrote 1 v1).wrote 2 v2).wrote 3 v3
      have G0 : ∀ v0 v1 v2 v3 : Value, Below w4.heap.size w4 ((((wr.alloc (.cells #[.int .i64 0, .string ⟨#[]⟩, .int .u8 0, .int .i64 0] 28)).setCell ⟨nb, 0, none⟩ v0).setCell ⟨nb, 1, none⟩ v1 |>.setCell ⟨nb, 2, none⟩ v2).setCell ⟨nb, 3, none⟩ v3) := fun v0 v1 v2 v3 =>
        (((hbY.setCell (p := ⟨nb, 0, none⟩) hnw v0).setCell (p := ⟨nb, 1, none⟩) hnw v1).setCell (p := ⟨nb, 2, none⟩) hnw v2).setCell (p := ⟨nb, 3, none⟩) hnw v3
      by_cases hka : k < la.length
      · have hkai : (k : Int) < (la.length : Int) := by omega
        have hxa : la[k]? = some x := by rw [List.getElem?_append_left hka] at hx; exact hx
        obtain ⟨ya0, ya1, ya2, ya3⟩ := (RA.call hbY).2 k x hxa
        have xA := (RA.call hbY).1
        rw [hK1] at ya0
        clear hK1 b0 hb
        go_upto_region 16 with fail
        clear hnb
        generalize World.alloc wr _ = Y at *
        go_upto_region 19 with fail
        have BX := F0 (.int .i64 K1) (.string (bA x)) (.int .u8 (kindL x)) (.int .i64 (wrongL x))
        have hbX := G0 (.int .i64 K1) (.string (bA x)) (.int .u8 (kindL x)) (.int .i64 (wrongL x))
        clear F0 G0 ya0 ya1 ya2 ya3 xA fr0 fr1 fr2 fr3 in0 z0 z1 z2 z3 B0 hbY hxa hka hkai
        generalize World.setCell (World.setCell (World.setCell (World.setCell _ _ _) _ _) _ _) _ _ = X at *
        have cC := fun u => check_line x hxno hxs u
        have h1X := RC.call hbX
        obtain ⟨y0, y1, y2, y3⟩ := h1X.2 k x hx
        have x6 := h1X.1
        have keepX : ∀ u, Below X.heap.size X u → (u.cell? ⟨gc, k * 4, none⟩ = some (.int .i64 ((k + 1 : Nat) : Int)) ∧ u.cell? ⟨gc, k * 4 + 1, none⟩ = some (.string (bA x)) ∧ u.cell? ⟨gc, k * 4 + 2, none⟩ = some (.int .u8 (kindL x)) ∧ u.cell? ⟨gc, k * 4 + 3, none⟩ = some (.int .i64 (wrongL x))) ∧ gc < u.heap.size ∧
            (u.cell? ⟨nb, 0, none⟩ = some (.int .i64 K1) ∧ u.cell? ⟨nb, 1, none⟩ = some (.string (bA x)) ∧ u.cell? ⟨nb, 2, none⟩ = some (.int .u8 (kindL x)) ∧ u.cell? ⟨nb, 3, none⟩ = some (.int .i64 (wrongL x))) ∧ nb < u.heap.size := fun u hu => by
          have h1 := RC.call (chain hbX hu)
          have h2 := BX.call hu
          exact ⟨h1.2 k x hx, h1.1, ⟨h2.read 0, h2.read 1, h2.read 2, h2.read 3⟩, h2.inside⟩
        have hst := firstW_take (la ++ lb) k x hx
        obtain ⟨F, hF⟩ : ∃ F, firstW (numb 1 ((la ++ lb).take k)) = F := ⟨_, rfl⟩
        obtain ⟨F', hF'⟩ : ∃ F', firstW (numb 1 ((la ++ lb).take (k + 1))) = F' := ⟨_, rfl⟩
        rw [hF, hF'] at hst
        rw [hF]
        have HF' := hideIt hF'
        have hq := fun u => run_neq_line K1 (kindL x) (wrongL x) (bA x) u
        rw [HK1.out] at keepX hst
        clear hF hF' y0 y2 y3 BX hx h1X
        generalize kindL x = kk at *
        obtain ⟨f1, f2⟩ := F
        by_cases hw0 : wrongL x = 0
        · rw [if_neg (fun hh => hh.2 hw0)] at hst
          subst hst
          rw [if_pos hw0] at cC
          rw [hw0] at cC keepX hq
          clear hw0
          go_upto_region 20 with (first
            | (go_at_call 15; refine (cC _).mono ?_; rintro e w5 ⟨rfl, b5⟩))
          obtain ⟨⟨p0, p1, p2, p3⟩, p4, ⟨q0, q1, q2, q3⟩, q4⟩ := keepX w5 b5
          by_cases hf : f1 = 0
          · have hfb : ((f1 : Int) == 0) = true := by simp [hf]
            clear cC keepX y1
            go_quiet (fail)
            have L6 : Below w4.heap.size w4 (w5.drewN nq) := below_drewN (chain hbX b5) _
            generalize World.drewN _ _ = Z at *
            go_wp2
            go_roundg (N - (k + 1))
            case measure => have := HG.out; omega
            case rel => exact ⟨k + 1, by omega, rfl, by rw [HK1.out], by rw [HF'.out], by rw [HF'.out], L6⟩
          · have hfb : ((f1 : Int) == 0) = false := beq_false_of_ne (by omega)
            have hfi : ¬ ((f1 : Int) = 0) := by omega
            clear cC keepX y1
            go_quiet (fail)
            have L6 : Below w4.heap.size w4 (w5.drewN nq) := below_drewN (chain hbX b5) _
            generalize World.drewN _ _ = Z at *
            go_wp2
            go_roundg (N - (k + 1))
            case measure => have := HG.out; omega
            case rel => exact ⟨k + 1, by omega, rfl, by rw [HK1.out], by rw [HF'.out], by rw [HF'.out], L6⟩
        · rw [if_neg hw0] at cC
          obtain ⟨wn, hwn⟩ : ∃ wn, wrongL x = wn := ⟨_, rfl⟩
          rw [hwn] at cC keepX hq hst hw0
          have hwb : ((wn : Int) == 0) = false := beq_false_of_ne (by omega)
          have hwi : ¬ ((wn : Int) = 0) := by omega
          clear hwn
          go_upto_region 20 with (first
            | (go_at_call 15; refine (cC _).mono ?_; rintro e w5 ⟨rfl, b5⟩))
          obtain ⟨⟨p0, p1, p2, p3⟩, p4, ⟨q0, q1, q2, q3⟩, q4⟩ := keepX w5 b5
          by_cases hf : f1 = 0
          · rw [if_pos ⟨hf, hw0⟩] at hst
            subst hst
            have hfb : ((f1 : Int) == 0) = true := by simp [hf]
            have hfi : ((f1 : Int) = 0) := by omega
            clear hf
            clear cC keepX y1
            go_quiet (fail)
            have L6 : Below w4.heap.size w4 (w5.drewN nq) := below_drewN (chain hbX b5) _
            generalize World.drewN _ _ = Z at *
            go_wp2
            go_roundg (N - (k + 1))
            case measure => have := HG.out; omega
            case rel => exact ⟨k + 1, by omega, rfl, by rw [HK1.out], by rw [HF'.out], by rw [HF'.out], L6⟩
          · rw [if_neg (fun hh => hf hh.1)] at hst
            subst hst
            have hfb : ((f1 : Int) == 0) = false := beq_false_of_ne (by omega)
            have hfi : ¬ ((f1 : Int) = 0) := by omega
            clear cC keepX y1
            go_quiet (fail)
            have L6 : Below w4.heap.size w4 (w5.drewN nq) := below_drewN (chain hbX b5) _
            generalize World.drewN _ _ = Z at *
            go_wp2
            go_roundg (N - (k + 1))
            case measure => have := HG.out; omega
            case rel => exact ⟨k + 1, by omega, rfl, by rw [HK1.out], by rw [HF'.out], by rw [HF'.out], L6⟩
      · have hkai : ¬ ((k : Int) < (la.length : Int)) := by omega
        obtain ⟨J, hJ⟩ : ∃ J, k - la.length = J := ⟨_, rfl⟩
        have hxb : lb[J]? = some x := by rw [List.getElem?_append_right (by omega), hJ] at hx; exact hx
        have hJl : (J : Int) < (lb.length : Int) := by have := (List.getElem?_eq_some_iff.1 hxb).1; omega
        have hJw : IntKind.i64.wrap ((k : Int) - (la.length : Int)) = (J : Int) := by rw [IntKind.wrap_i64]; omega
        obtain ⟨J1, hJ1⟩ : ∃ J1, J + 1 = J1 := ⟨_, rfl⟩
        obtain ⟨ya0, ya1, ya2, ya3⟩ := (RB.call hbY).2 J x hxb
        have xA := (RB.call hbY).1
        rw [hJ1] at ya0
        clear hK1 b0 hb hJ1 hJ
        go_upto_region 17 with fail
        clear hnb
        generalize World.alloc wr _ = Y at *
        go_upto_region 18 with fail
        have BX := F0 (.int .i64 J1) (.string (bA x)) (.int .u8 (kindL x)) (.int .i64 (wrongL x))
        have hbX := G0 (.int .i64 J1) (.string (bA x)) (.int .u8 (kindL x)) (.int .i64 (wrongL x))
        clear F0 G0 ya0 ya1 ya2 ya3 xA fr0 fr1 fr2 fr3 in0 z0 z1 z2 z3 B0 hbY hxb hka hkai
        generalize World.setCell (World.setCell (World.setCell (World.setCell _ _ _) _ _) _ _) _ _ = X0 at *
        have fr0 := BX.free 0
        have in0 := BX.inside
        have z0 : X0.cell? ⟨nb, 0, none⟩ = some (.int .i64 J1) := BX.read 0
        go_upto_region 19 with fail
        have BX := BX.wrote 0 (.int .i64 K1)
        have hbX := hbX.setCell (p := ⟨nb, 0, none⟩) hnw (.int .i64 K1)
        have BX : Box (X0.setCell ⟨nb, 0, none⟩ (.int .i64 K1)) nb 28 #[.int .i64 K1, .string (bA x), .int .u8 (kindL x), .int .i64 (wrongL x)] := BX
        clear fr0 in0 z0 hJw hJl
        generalize World.setCell _ _ _ = X at *
        have cC := fun u => check_line x hxno hxs u
        have h1X := RC.call hbX
        obtain ⟨y0, y1, y2, y3⟩ := h1X.2 k x hx
        have x6 := h1X.1
        have keepX : ∀ u, Below X.heap.size X u → (u.cell? ⟨gc, k * 4, none⟩ = some (.int .i64 ((k + 1 : Nat) : Int)) ∧ u.cell? ⟨gc, k * 4 + 1, none⟩ = some (.string (bA x)) ∧ u.cell? ⟨gc, k * 4 + 2, none⟩ = some (.int .u8 (kindL x)) ∧ u.cell? ⟨gc, k * 4 + 3, none⟩ = some (.int .i64 (wrongL x))) ∧ gc < u.heap.size ∧
            (u.cell? ⟨nb, 0, none⟩ = some (.int .i64 K1) ∧ u.cell? ⟨nb, 1, none⟩ = some (.string (bA x)) ∧ u.cell? ⟨nb, 2, none⟩ = some (.int .u8 (kindL x)) ∧ u.cell? ⟨nb, 3, none⟩ = some (.int .i64 (wrongL x))) ∧ nb < u.heap.size := fun u hu => by
          have h1 := RC.call (chain hbX hu)
          have h2 := BX.call hu
          exact ⟨h1.2 k x hx, h1.1, ⟨h2.read 0, h2.read 1, h2.read 2, h2.read 3⟩, h2.inside⟩
        have hst := firstW_take (la ++ lb) k x hx
        obtain ⟨F, hF⟩ : ∃ F, firstW (numb 1 ((la ++ lb).take k)) = F := ⟨_, rfl⟩
        obtain ⟨F', hF'⟩ : ∃ F', firstW (numb 1 ((la ++ lb).take (k + 1))) = F' := ⟨_, rfl⟩
        rw [hF, hF'] at hst
        rw [hF]
        have HF' := hideIt hF'
        have hq := fun u => run_neq_line K1 (kindL x) (wrongL x) (bA x) u
        rw [HK1.out] at keepX hst
        clear hF hF' y0 y2 y3 BX hx h1X
        generalize kindL x = kk at *
        obtain ⟨f1, f2⟩ := F
        by_cases hw0 : wrongL x = 0
        · rw [if_neg (fun hh => hh.2 hw0)] at hst
          subst hst
          rw [if_pos hw0] at cC
          rw [hw0] at cC keepX hq
          clear hw0
          go_upto_region 20 with (first
            | (go_at_call 15; refine (cC _).mono ?_; rintro e w5 ⟨rfl, b5⟩))
          obtain ⟨⟨p0, p1, p2, p3⟩, p4, ⟨q0, q1, q2, q3⟩, q4⟩ := keepX w5 b5
          by_cases hf : f1 = 0
          · have hfb : ((f1 : Int) == 0) = true := by simp [hf]
            clear cC keepX y1
            go_quiet (fail)
            have L6 : Below w4.heap.size w4 (w5.drewN nq) := below_drewN (chain hbX b5) _
            generalize World.drewN _ _ = Z at *
            go_wp2
            go_roundg (N - (k + 1))
            case measure => have := HG.out; omega
            case rel => exact ⟨k + 1, by omega, rfl, by rw [HK1.out], by rw [HF'.out], by rw [HF'.out], L6⟩
          · have hfb : ((f1 : Int) == 0) = false := beq_false_of_ne (by omega)
            have hfi : ¬ ((f1 : Int) = 0) := by omega
            clear cC keepX y1
            go_quiet (fail)
            have L6 : Below w4.heap.size w4 (w5.drewN nq) := below_drewN (chain hbX b5) _
            generalize World.drewN _ _ = Z at *
            go_wp2
            go_roundg (N - (k + 1))
            case measure => have := HG.out; omega
            case rel => exact ⟨k + 1, by omega, rfl, by rw [HK1.out], by rw [HF'.out], by rw [HF'.out], L6⟩
        · rw [if_neg hw0] at cC
          obtain ⟨wn, hwn⟩ : ∃ wn, wrongL x = wn := ⟨_, rfl⟩
          rw [hwn] at cC keepX hq hst hw0
          have hwb : ((wn : Int) == 0) = false := beq_false_of_ne (by omega)
          have hwi : ¬ ((wn : Int) = 0) := by omega
          clear hwn
          go_upto_region 20 with (first
            | (go_at_call 15; refine (cC _).mono ?_; rintro e w5 ⟨rfl, b5⟩))
          obtain ⟨⟨p0, p1, p2, p3⟩, p4, ⟨q0, q1, q2, q3⟩, q4⟩ := keepX w5 b5
          by_cases hf : f1 = 0
          · rw [if_pos ⟨hf, hw0⟩] at hst
            subst hst
            have hfb : ((f1 : Int) == 0) = true := by simp [hf]
            have hfi : ((f1 : Int) = 0) := by omega
            clear hf
            clear cC keepX y1
            go_quiet (fail)
            have L6 : Below w4.heap.size w4 (w5.drewN nq) := below_drewN (chain hbX b5) _
            generalize World.drewN _ _ = Z at *
            go_wp2
            go_roundg (N - (k + 1))
            case measure => have := HG.out; omega
            case rel => exact ⟨k + 1, by omega, rfl, by rw [HK1.out], by rw [HF'.out], by rw [HF'.out], L6⟩
          · rw [if_neg (fun hh => hf hh.1)] at hst
            subst hst
            have hfb : ((f1 : Int) == 0) = false := beq_false_of_ne (by omega)
            have hfi : ¬ ((f1 : Int) = 0) := by omega
            clear cC keepX y1
            go_quiet (fail)
            have L6 : Below w4.heap.size w4 (w5.drewN nq) := below_drewN (chain hbX b5) _
            generalize World.drewN _ _ = Z at *
            go_wp2
            go_roundg (N - (k + 1))
            case measure => have := HG.out; omega
            case rel => exact ⟨k + 1, by omega, rfl, by rw [HK1.out], by rw [HF'.out], by rw [HF'.out], L6⟩
    · have e : k = N := by omega
      subst e
      have hall : (la ++ lb).take k = la ++ lb := List.take_of_length_le (by omega)
      rw [hall]
      generalize firstW (numb 1 (la ++ lb)) = F at *
      obtain ⟨f1, f2⟩ := F
      go_wp2_with (first
        | (go_at_call 15; refine (cQ _).mono ?_; rintro e w5 ⟨rfl, b5⟩))
      go_ret
      exact ⟨rfl, chain (chain L4 hb) b5⟩

theorem linesAlone_core (H : Type) (enc : TypeId × Value → H) (W : World) (base : Nat) (args : Array Value) (ds gs : List (DataW H)) (before : List MemPlace)
    (hval : ∀ (j : Nat) t v, Try.f8.params[j]? = some t → args[j]? = some v → Value.okWide Try.prog W .any base t v)
    (hW : DataW.Whole enc Try.prog Try.f8.params.toList Rows.linesAloneSpec.vars false W args.toList ds gs before) :
    gs = [] ∧ ds.length = 2 ∧ Calls Try.prog 8 args W (Tells (.bool true) W.heap.size W) := by
  obtain ⟨p, q, hA, hV, -, -, -⟩ := hW
  obtain ⟨rfl, rfl⟩ := trodVars_none hV
  have hA : DataW.TrodAll enc Try.prog W 0 (fun _ => true) true Try.f8.params.toList args.toList ds p := hA
  rw [Try.params8] at hA hval
  obtain ⟨v0, vs0, d0, ds0, p0, ps0, e0, rfl, -, h0, hA⟩ := trodAll_cons hA
  obtain ⟨v1, vs1, d1, ds1, p1, ps1, rfl, rfl, -, h1, hA⟩ := trodAll_cons hA
  obtain ⟨rfl, rfl, rfl⟩ := trodAll_nil hA
  obtain rfl : args = #[v0, v1] := Array.ext' e0
  obtain ⟨a, rfl, rfl, rfl, hs⟩ := Go.ChangeMaps.open_string Try.underlying9 (hval 0 9 v0 rfl rfl) h0
  obtain ⟨b, rfl, rfl, rfl, hs2⟩ := Go.ChangeMaps.open_string Try.underlying9 (hval 1 9 v1 rfl rfl) h1
  refine ⟨rfl, rfl, ?_⟩
  by_cases h : 1500 < a.size ∨ 1500 < b.size
  · exact lalone_long a b h W
  · exact lalone_short a b (by omega) (by omega) W

set_option maxRecDepth 100000 in
theorem linesAlone_lifted (os : Os) (started : os.Started) (H : Type) (enc : TypeId × Value → H) :
    ReturnsInHanded {} Try.checked os 8 .any (Rows.linesAloneSpec.pre6 enc Try.prog Try.f8 Rows.linesAloneRow.domain false) (Rows.linesAloneSpec.post enc Try.prog Try.f8 false true false false) := by
  refine returnsInHanded_of_change (C := Try.checked) own_knob started (by kernel_rfl) Try.func8
    (ChangeSpec.witness6 (enc := enc) (C := Try.checked) false ⟨#[], #[.string ⟨#[]⟩, .string ⟨#[]⟩], []⟩ 8 (by kernel_rfl) (by kernel_rfl) (by kernel_rfl) (by kernel_rfl)) ?_
  intro W base args ds gs before hval hW _ _
  obtain ⟨hg, hlen, hc⟩ := linesAlone_core H enc W base args ds gs before hval hW
  subst hg
  have hr : (Try.f8.params.toList.all fun t => Try.prog.readableRec t && decide (t < Try.prog.types.size)) = true := by kernel_rfl
  have hread : ∀ t ∈ Try.f8.params.toList, Try.prog.readableRec t = true ∧ t < Try.prog.types.size := fun t ht => by
    have h := List.all_eq_true.1 hr t ht
    rw [Bool.and_eq_true, decide_eq_true_eq] at h
    exact h
  refine hc.mono fun e W' ⟨he, hb⟩ => ?_
  subst he
  match ds, hlen with
  | [d0, d1], _ => exact ⟨_, rfl, law_post laid_out Try.underlying4 rfl hread rfl hW rfl rfl rfl hb⟩

theorem linesAlone_holds : Rows.LinesAloneSaid :=
  OpenClaim.holds_of_wide 8 Try.f8 rfl rfl rfl rfl rfl rfl rfl ⟨rfl, rfl, rfl, rfl, rfl⟩ rfl rfl rfl rfl rfl (by kernel_rfl) Try.func8 (by kernel_rfl)
    (of_decide_eq_true (by kernel_rfl)) (by unfold Func.isWrapper; first | (rw [if_pos (by decide +kernel)]; kernel_rfl) | (rw [if_neg (by decide +kernel)]; exact ⟨rfl, rfl⟩))
    (fun os started H enc _ => linesAlone_lifted os started H enc)

end Go.Proofs.Ytpblnhphkikfaaa
