/-
  paymasterref03's Of, Narrow, Plus, Cmp, Less, walked: what the document says of wide numbers, by definition.
-/
import Derived.Test.YtpafamlegfdclaaU3Cmp
import Derived.Test.YtpafamlegfdclaaR1Sub
namespace Go.Proofs.Ytpafamlegfdclaa
set_option linter.unusedVariables false
set_option linter.unusedSimpArgs false
open Go.RowKit

theorem rwof_any (h l : Int) (w : World) : Calls Try.prog 12 #[.agg #[.int .u64 h, .int .u64 l]] w (Tells (wide 0 h l) w.heap.size w) := by
  go_enter Try.func12, Try.ntmps12
  go_wp2
  exact bodyPost_ret (v := wide 0 h l) (by simp [results, Try.results12, go_sem]) rfl ⟨rfl, by repeat (first | exact Below.refl _ _ | apply Below.drew | apply below_drewN | refine Below.alloc ?_ (by simp; try omega) _ | refine Below.setCell ?_ (by simp; try omega) _)⟩

theorem rnarrow_any (H h l : Int) (a : Word H) (b : Word h) (c : Word l) (w : World) : Calls Try.prog 10 #[wide H h l] w (Fit (wv H h l) w.heap.size w) := by
  have hr := wv_narrow a b c
  by_cases hz : H = 0
  · subst hz
    have e : wv 0 h l = nv h l := by unfold wv; omega
    rw [e]
    go_enter Try.func10, Try.ntmps10
    go_wp2
    exact bodyPost_ret (v := .tuple #[.agg #[.int .u64 h, .int .u64 l], .int .i64 0]) (by simp [results, Try.results10, go_sem]) rfl ⟨by rw [rh_nv b c, rl_nv b c, re_nv b c], by repeat (first | exact Below.refl _ _ | apply Below.drew | apply below_drewN | refine Below.alloc ?_ (by simp; try omega) _ | refine Below.setCell ?_ (by simp; try omega) _)⟩
  · have hno : room (wv H h l) = false := by rw [hr]; simp [hz]
    have hp : 0 < H := by have := a.1; omega
    go_enter Try.func10, Try.ntmps10
    go_wp2
    exact bodyPost_ret (v := .tuple #[.agg #[.int .u64 0, .int .u64 0], .int .i64 10]) (by simp [results, Try.results10, go_sem]) rfl ⟨by rw [rh_no hno, rl_no hno, re_no hno], by repeat (first | exact Below.refl _ _ | apply Below.drew | apply below_drewN | refine Below.alloc ?_ (by simp; try omega) _ | refine Below.setCell ?_ (by simp; try omega) _)⟩

set_option maxHeartbeats 1000000 in
theorem rwcmp_any (H h l K j m : Int) (b : Word h) (c : Word l) (b' : Word j) (c' : Word m) (w : World) :
    Calls Try.prog 18 #[wide H h l, wide K j m] w (Tells (.int .i64 (cmpI (wv H h l) (wv K j m))) w.heap.size w) := by
  have cC := fun u : World => rcmp_any h l j m b c b' c' u
  rw [wv_cmp b c b' c']
  generalize cmpI (nv h l) (nv j m) = q at *
  have M0 := ((Has.start w).add 26 #[.int .u64 H, .int .u64 h, .int .u64 l]).addAt 26 #[.int .u64 K, .int .u64 j, .int .u64 m] (g := w.heap.size + 1) (by simp)
  rcases Int.lt_trichotomy H K with g | g | g
  · rw [if_pos g]
    go_enter Try.func18, Try.ntmps18
    go_wp2
    go_ret
    exact ⟨rfl, M0.below⟩
  · subst g
    have g1 : ¬ (H < H) := by omega
    rw [if_neg g1, if_neg g1]
    go_enter Try.func18, Try.ntmps18
    go_wp2_with (first
      | (go_at_call 35; refine (cC _).mono ?_; rintro e w1 ⟨rfl, h1⟩))
    go_ret
    exact ⟨rfl, (M0.call h1).below⟩
  · have g1 : ¬ (H < K) := by omega
    rw [if_neg g1, if_pos g]
    go_enter Try.func18, Try.ntmps18
    go_wp2
    go_ret
    exact ⟨rfl, M0.below⟩

theorem rwless_any (H h l K j m : Int) (b : Word h) (c : Word l) (b' : Word j) (c' : Word m) (w : World) :
    Calls Try.prog 20 #[wide H h l, wide K j m] w (Tells (.bool (decide (cmpI (wv H h l) (wv K j m) < 0))) w.heap.size w) := by
  have cC := fun u : World => rwcmp_any H h l K j m b c b' c' u
  obtain ⟨p, hp⟩ : ∃ p, cmpI (wv H h l) (wv K j m) = p := ⟨_, rfl⟩
  rw [hp] at cC ⊢
  clear hp
  have M0 := ((Has.start w).add 26 #[.int .u64 H, .int .u64 h, .int .u64 l]).addAt 26 #[.int .u64 K, .int .u64 j, .int .u64 m] (g := w.heap.size + 1) (by simp)
  go_enter Try.func20, Try.ntmps20
  go_wp2_with (first
    | (go_at_call 18; refine (cC _).mono ?_; rintro e w1 ⟨rfl, h1⟩))
  go_ret
  exact ⟨rfl, (M0.call h1).below⟩
end Go.Proofs.Ytpafamlegfdclaa
