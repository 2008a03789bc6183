/-
  What each plain call of package u128 tells (Of, Most, Add, Sub, Cmp), as a contract on the translated code: any halves below 2^64; old memory is as it was.
-/
import Derived.Test.YtakhdhbalmcohaaDoorRows
import Derived.Test.YtakhdhbalmcohaaDoorU1Nums
import Derived.WalkKit
import Derived.WalkSpells
import Derived.StillTactics
import Derived.Laws.Pointers
import Derived.Laws.Externs
import Derived.Shelf.Spec.BitsCarry
import Derived.RowKit3
import Derived.Outline
import Derived.BigQuiet
import Derived.Deep.QuietTactic
namespace Go.Proofs.YtakhdhbalmcohaaDoor
set_option linter.unusedVariables false
set_option linter.unusedSimpArgs false
set_option maxRecDepth 10000
open Go.RowKit

theorem of_any (n : Int) (w : World) : Calls Tryd.prog 29 #[.int .u64 n] w (Tells (.agg #[.int .u64 0, .int .u64 n]) w.heap.size w) := by
  go_enter Tryd.func29, Tryd.ntmps29
  go_wp2
  exact bodyPost_ret (v := .agg #[.int .u64 0, .int .u64 n]) (by simp [results, Tryd.results29, go_sem]) rfl ⟨rfl, by repeat (first | exact Below.refl _ _ | apply Below.drew | apply below_drewN | refine Below.alloc ?_ (by simp; try omega) _ | refine Below.setCell ?_ (by simp; try omega) _)⟩

set_option maxHeartbeats 1000000 in
theorem cmp_any (ah al bh bl : Int) (a1 : Word ah) (a0 : Word al) (b1 : Word bh) (b0 : Word bl) (w : World) :
    Calls Tryd.prog 30 #[.agg #[.int .u64 ah, .int .u64 al], .agg #[.int .u64 bh, .int .u64 bl]] w (Tells (.int .i64 (cmpI (nv ah al) (nv bh bl))) w.heap.size w) := by
  obtain ⟨a1, a2⟩ := a1; obtain ⟨a3, a4⟩ := a0; obtain ⟨b1, b2⟩ := b1; obtain ⟨b3, b4⟩ := b0
  rcases Int.lt_trichotomy ah bh with h | h | h
  · have hn : ¬ (ah = bh) := by omega
    have hc : cmpI (nv ah al) (nv bh bl) = -1 := cmpI_lt (by unfold nv; omega)
    go_enter Tryd.func30, Tryd.ntmps30
    go_wp2
    all_goals exact bodyPost_ret (v := .int .i64 (-1)) (by simp [results, Tryd.results30, go_sem]) rfl ⟨by first | rfl | rw [hc], by repeat (first | exact Below.refl _ _ | apply Below.drew | apply below_drewN | refine Below.alloc ?_ (by simp; try omega) _ | refine Below.setCell ?_ (by simp; try omega) _)⟩
  · subst h
    rcases Int.lt_trichotomy al bl with h | h | h
    · have hn : ¬ (al = bl) := by omega
      have hc : cmpI (nv ah al) (nv ah bl) = -1 := cmpI_lt (by unfold nv; omega)
      go_enter Tryd.func30, Tryd.ntmps30
      go_wp2
      all_goals exact bodyPost_ret (v := .int .i64 (-1)) (by simp [results, Tryd.results30, go_sem]) rfl ⟨by first | rfl | rw [hc], by repeat (first | exact Below.refl _ _ | apply Below.drew | apply below_drewN | refine Below.alloc ?_ (by simp; try omega) _ | refine Below.setCell ?_ (by simp; try omega) _)⟩
    · subst h
      have hc := cmpI_eq (nv ah al)
      go_enter Tryd.func30, Tryd.ntmps30
      go_wp2
      all_goals exact bodyPost_ret (v := .int .i64 0) (by simp [results, Tryd.results30, go_sem]) rfl ⟨by first | rfl | rw [hc], by repeat (first | exact Below.refl _ _ | apply Below.drew | apply below_drewN | refine Below.alloc ?_ (by simp; try omega) _ | refine Below.setCell ?_ (by simp; try omega) _)⟩
    · have hn : ¬ (al = bl) := by omega
      have hn' : ¬ (al < bl) := by omega
      have hc : cmpI (nv ah al) (nv ah bl) = 1 := cmpI_gt (by unfold nv; omega)
      go_enter Tryd.func30, Tryd.ntmps30
      go_wp2
      all_goals exact bodyPost_ret (v := .int .i64 1) (by simp [results, Tryd.results30, go_sem]) rfl ⟨by first | rfl | rw [hc], by repeat (first | exact Below.refl _ _ | apply Below.drew | apply below_drewN | refine Below.alloc ?_ (by simp; try omega) _ | refine Below.setCell ?_ (by simp; try omega) _)⟩
  · have hn : ¬ (ah = bh) := by omega
    have hn' : ¬ (ah < bh) := by omega
    have hc : cmpI (nv ah al) (nv bh bl) = 1 := cmpI_gt (by unfold nv; omega)
    go_enter Tryd.func30, Tryd.ntmps30
    go_wp2
    all_goals exact bodyPost_ret (v := .int .i64 1) (by simp [results, Tryd.results30, go_sem]) rfl ⟨by first | rfl | rw [hc], by repeat (first | exact Below.refl _ _ | apply Below.drew | apply below_drewN | refine Below.alloc ?_ (by simp; try omega) _ | refine Below.setCell ?_ (by simp; try omega) _)⟩
end Go.Proofs.YtakhdhbalmcohaaDoor
