/-
  paymasterlaw09.letters, awake, walked: the chapter's examples.
-/
import Derived.Test.YtpblnhphkikfaaaU9Check
import Derived.Test.YtpblnhphkikfaaaE9Same
import Derived.Laws.Concat
namespace Go.Proofs.Ytpblnhphkikfaaa
set_option linter.unusedVariables false
set_option linter.unusedSimpArgs false
set_option maxRecDepth 10000
open Go.RowKit Go.Lib

set_option maxHeartbeats 2000000 in
theorem letters_any (n : Nat) (hn : n ≤ 1000) (w : World) : Calls Try.prog 37 #[.int .i64 n] w (Plain (.string (bA (List.replicate n 97))) w) := by
  go_enter Try.func37, Try.ntmps37
  go_wp2
  go_loopg [3, 4] n (fun gk t i wr => ∃ k : Nat, k ≤ n ∧ gk = n - k ∧ i = .int .i64 k ∧ t = .string (bA (List.replicate k 97)) ∧ wr = w)
  case atStart => exact ⟨0, by omega, rfl, rfl, rfl, rfl⟩
  case round =>
    obtain ⟨k, hk, hgk, rfl, rfl, rfl⟩ := hrel
    have HG := hideIt hgk
    clear hgk
    by_cases hlt : k < n
    · have hlti : (k : Int) < (n : Int) := by omega
      have hadd : ∀ u : World, (Op.stringOp .add (bA (List.replicate k 97)) ⟨#[97]⟩).run Try.prog u = .ok (.string (bA (List.replicate (k + 1) 97))) u := fun u => by
        rw [run_string_add_sum u _ _ (by rw [bA_size, List.length_replicate]; show _ + 1 ≤ _; omega)]
        congr 2
        apply ba_ext
        rw [ByteArray.data_append, Array.toList_append, bA_list, bA_list, List.replicate_succ']
      go_wp2
      go_roundg (n - (k + 1))
      case measure => have := HG.out; omega
      case rel => exact ⟨k + 1, by omega, rfl, by go_num, rfl, rfl⟩
    · have e : k = n := by omega
      subst e
      go_wp2
      go_ret
      exact ⟨rfl, rfl⟩

theorem ex_one : linesL [97, 10, 35, 98] = [(1, [97]), (2, [35, 98])] := by decide +kernel
theorem ex_none : linesL [] = [(1, [])] := by decide +kernel
theorem ex_w : wrongL [97] = 0 ∧ wrongL [35, 98] = 0 ∧ wrongL [] = 0 ∧ kindL [97] = 2 ∧ kindL [35, 98] = 1 ∧ kindL [] = 0 := by decide +kernel
theorem ex_long : firstW (linesL ([97, 10] ++ List.replicate 81 97)) = (2, 91) := by decide +kernel
theorem ex_bad : firstW (linesL (List.replicate 81 97 ++ [255])) = (1, 90) := by decide +kernel
theorem ex_ok : firstW (linesL (List.replicate 80 97)) = (0, 0) := by decide +kernel
theorem check_at (l : List UInt8) (hl : l.length ≤ 1000) (a b : Nat) (h : firstW (linesL l) = (a, b)) (s : ByteArray) (hs : bA l = s) (u : World) : Calls Try.prog 15 #[.string s] u (Tells (.tuple #[.int .i64 a, .int .i64 b]) u.heap.size u) := by
  subst hs
  have c := check_any (bA l) (by rw [bA_size]; omega) u
  rw [bA_list, h] at c
  exact c
theorem add_at (a b : List UInt8) (h : a.length + b.length ≤ 1000000) (x y : ByteArray) (hx : bA a = x) (hy : bA b = y) (u : World) : (Op.stringOp .add x y).run Try.prog u = .ok (.string (bA (a ++ b))) u := by
  subst hx hy
  rw [run_string_add_sum u _ _ (by rw [bA_size, bA_size]; omega)]
  congr 2

set_option maxRecDepth 100000 in
set_option maxHeartbeats 4000000 in
theorem awake_any (w : World) : Calls Try.prog 25 #[] w (Tells (.bool true) w.heap.size w) := by
  have cA1 : ∀ u, Calls Try.prog 10 #[.string ⟨#[97, 10, 35, 98]⟩] u fun e W => ∃ v, e = .returned v ∧ LineRow u.heap.size W v [(1, [97]), (2, [35, 98])] ∧ Below u.heap.size u W := fun u => by
    have h := all_any ⟨#[97, 10, 35, 98]⟩ (by decide) u
    rw [show (⟨#[97, 10, 35, 98]⟩ : ByteArray).data.toList = [97, 10, 35, 98] from rfl, ex_one] at h
    exact h
  have cA2 : ∀ u, Calls Try.prog 10 #[.string ⟨#[]⟩] u fun e W => ∃ v, e = .returned v ∧ LineRow u.heap.size W v [(1, [])] ∧ Below u.heap.size u W := fun u => by
    have h := all_any ⟨#[]⟩ (by decide) u
    rw [show (⟨#[]⟩ : ByteArray).data.toList = [] from rfl, ex_none] at h
    exact h
  have cL1 : ∀ u, Calls Try.prog 37 #[.int .i64 81] u (Plain (.string (bA (List.replicate 81 97))) u) := fun u => letters_any 81 (by decide) u
  have cL2 : ∀ u, Calls Try.prog 37 #[.int .i64 80] u (Plain (.string (bA (List.replicate 80 97))) u) := fun u => letters_any 80 (by decide) u
  have hadd1 := fun u => add_at [97, 10] (List.replicate 81 97) (by rw [List.length_replicate]; decide) ⟨#[97, 10]⟩ _ rfl rfl u
  have hadd2 := fun u => add_at (List.replicate 81 97) [255] (by rw [List.length_replicate]; decide) _ ⟨#[255]⟩ rfl rfl u
  have cC1 : ∀ u, Calls Try.prog 15 #[.string (bA ([97, 10] ++ List.replicate 81 97))] u (Tells (.tuple #[.int .i64 2, .int .i64 91]) u.heap.size u) := fun u => check_at _ (by rw [List.length_append, List.length_replicate]; decide) _ _ ex_long _ rfl u
  have cC2 : ∀ u, Calls Try.prog 15 #[.string (bA (List.replicate 81 97 ++ [255]))] u (Tells (.tuple #[.int .i64 1, .int .i64 90]) u.heap.size u) := fun u => check_at _ (by rw [List.length_append, List.length_replicate]; decide) _ _ ex_bad _ rfl u
  have cC3 : ∀ u, Calls Try.prog 15 #[.string (bA (List.replicate 80 97))] u (Tells (.tuple #[.int .i64 0, .int .i64 0]) u.heap.size u) := fun u => check_at _ (by rw [List.length_replicate]; decide) _ _ ex_ok _ rfl u
  generalize bA (List.replicate 81 97) = L81 at *
  generalize bA (List.replicate 80 97) = L80 at *
  generalize bA ([97, 10] ++ List.replicate 81 97) = S1 at *
  generalize bA (List.replicate 81 97 ++ [255]) = S2 at *
  obtain ⟨w1, w2, w3, k1, k2, k3⟩ := ex_w
  have hq1 := fun u => run_eql_line 1 2 0 ⟨#[97]⟩ u
  have hq2 := fun u => run_eql_line 2 1 0 ⟨#[35, 98]⟩ u
  have hq3 := fun u => run_eql_line 1 0 0 ⟨#[]⟩ u
  go_enter Try.func25, Try.ntmps25
  go_upto_region 3 with (first
    | (go_at_call 10; (with_reducible refine (cA1 _).mono ?_); rintro e v1 ⟨x1, rfl, r1, b1⟩; clear cA1)
    | (go_at_call 10; (with_reducible refine (cA2 _).mono ?_); rintro e v2 ⟨x2, rfl, r2, b2⟩))
  go_upto_region 6 with (first
    | (go_at_call 37; (with_reducible refine (cL1 _).mono ?_); rintro e w' ⟨rfl, rfl⟩)
    | (go_at_call 37; (with_reducible refine (cL2 _).mono ?_); rintro e w' ⟨rfl, rfl⟩)
    | (go_at_call 15; (with_reducible refine (cC1 _).mono ?_); rintro e v3 ⟨rfl, b3⟩)
    | (go_at_call 15; (with_reducible refine (cC2 _).mono ?_); rintro e v4 ⟨rfl, b4⟩)
    | (go_at_call 15; (with_reducible refine (cC3 _).mono ?_); rintro e v5 ⟨rfl, b5⟩))
  have K := chain (chain (chain b2 b3) b4) b5
  have r1 := ((r1.call K))
  have r2 := (((r2.call b3).call b4).call b5)
  obtain ⟨g1, cap1, rfl, -, hg1, f1⟩ := r1
  obtain ⟨g2, cap2, rfl, -, hg2, f2⟩ := r2
  obtain ⟨p0, p1, p2, p3⟩ := f1 0 _ rfl
  obtain ⟨p4, p5, p6, p7⟩ := f1 1 _ rfl
  obtain ⟨q0, q1, q2, q3⟩ := f2 0 _ rfl
  simp only [k1, k2, k3, w1, w2, w3, Nat.zero_mul, Nat.one_mul, Nat.zero_add, Nat.reduceAdd] at p0 p1 p2 p3 p4 p5 p6 p7 q0 q1 q2 q3
  rw [show bA [97] = ⟨#[97]⟩ from rfl] at p1
  rw [show bA [35, 98] = ⟨#[35, 98]⟩ from rfl] at p5
  rw [show bA [] = ⟨#[]⟩ from rfl] at q1
  clear cC1 cC2 cC3 cL1 cL2 hadd1 hadd2 cA2 f1 f2
  go_wp2
  go_ret
  exact ⟨rfl, chain b1 K⟩
end Go.Proofs.Ytpblnhphkikfaaa
