/-
  paymasterref01.Bytes, walked: from the greatest digit on, two bytes of each.
-/
import Derived.Test.YtjndabnegmecmaaGreatDoorM1Ref
import Derived.Test.YtjndabnegmecmaaGreatDoorU1Bytes
import Derived.Deep.AppendLies
import Derived.Deep.RegionHeld3
namespace Go.Proofs.YtjndabnegmecmaaGreatDoor
set_option linter.unusedVariables false
set_option linter.unusedSimpArgs false
set_option maxRecDepth 10000
open Go.RowKit

theorem info_u8r : (Tryz.prog.info? 5).map (fun i => (i.zero, i.size, i.bytes)) = some (some (.int .u8 0), 1, 1) := by kernel_rfl
/-- Two bytes of each digit. -/
def twos (ds : List Int) : List Int := ds.flatMap fun d => [d / 256, d % 256]
def u8r (l : List Int) : List Value := l.map (Value.int .u8)
theorem twos_length (ds : List Int) : (twos ds).length = 2 * ds.length := by
  induction ds with
  | nil => rfl
  | cons d r ih => simp only [twos, List.flatMap_cons, List.length_append, List.length_cons, List.length_nil] at *; omega
theorem twos_snoc (ds : List Int) (d : Int) : twos (ds ++ [d]) = twos ds ++ [d / 256, d % 256] := by simp [twos]
theorem drop_reverse_step {xs : List Int} {m : Nat} (hm : m < xs.length) : (xs.drop m).reverse = (xs.drop (m + 1)).reverse ++ [xs[m]] := by
  rw [List.drop_eq_getElem_cons hm, List.reverse_cons]
theorem half_twos {h : Int} (hh : Word h) : twos (digs h 4).reverse = (List.range 8).map (byteAt h) := by
  obtain ⟨h0, h1⟩ := hh
  rw [digs_four]
  simp only [twos, List.reverse_cons, List.reverse_nil, List.nil_append, List.cons_append, List.flatMap_cons, List.flatMap_nil, List.append_nil, List.range_succ, List.range_zero, List.map_cons, List.map_nil, byteAt]
  simp only [Nat.reduceSub, Nat.reduceMul, Int.reducePow]
  simp only [List.cons.injEq, and_true]
  refine ⟨?_, ?_, ?_, ?_, ?_, ?_, ?_, ?_⟩ <;> omega
theorem bytes_twos {h l : Int} (hh : Word h) (hl : Word l) : twos (dgs h l).reverse = bytesOf h l := by
  rw [dgs, List.reverse_append, bytesOf, ← half_twos hh, ← half_twos hl]
  simp [twos]

set_option maxHeartbeats 4000000 in
theorem rbytes_any (h l : Int) (hh : Word h) (hl : Word l) (w : World) :
    Calls Tryz.prog 73 #[.agg #[.int .u64 h, .int .u64 l]] w (Tells (.string (strOfNums (bytesOf h l))) w.heap.size w) := by
  obtain ⟨i0, hi, hz0, hz1, hz2⟩ := info_parts info_u8r
  go_enter Tryz.func73, Tryz.ntmps73
  go_wp2_with (first
    | (go_at_call 70; refine (digits_row h l hh hl _).mono ?_; rintro e w1 ⟨g, c, rfl, p2, p3, p4, p5⟩))
  have lx := dgs_length h l
  have bx := bytes_twos hh hl
  have dx := dgs_all h l
  generalize dgs h l = xs at *
  have LX := hideIt lx
  have BX := hideIt bx
  clear lx bx
  have L1 : Below w.heap.size w w1 := by
    refine Below.trans ?_ (p5.mono (by simp))
    repeat (first | exact Below.refl _ _ | apply Below.drew | apply below_drewN | refine Below.alloc ?_ (by simp; try omega) _ | refine Below.setCell ?_ (by simp; try omega) _)
  have hs1 := L1.size
  clear p5
  go_loopg [4, 5] 8 (fun gk v i wr => ∃ j : Nat, j ≤ 8 ∧ gk = j ∧ i = .int .i64 ((j : Int) - 1) ∧ wr.ownsRow w1.heap.size 5 1 v (16 - 2 * j) (u8r (twos (xs.drop j).reverse)) ∧ Below w1.heap.size w1 wr)
  case atStart => exact ⟨8, by omega, rfl, rfl, ⟨by rw [List.drop_eq_nil_of_le (by rw [LX.out]; omega)]; rfl, .inl ⟨rfl, rfl⟩⟩, Below.refl _ _⟩
  case round =>
    obtain ⟨j, hj, hgk, rfl, hown, hbel⟩ := hrel
    have HG := hideIt hgk
    clear hgk
    have hs2 := hbel.size
    by_cases hz : j = 0
    · subst hz
      rw [List.drop_zero, BX.out] at hown
      obtain ⟨g2, c2, rfl, q1, q2, q3, q4, q5, q6⟩ := own_row hown (by omega)
      have hconv := run_convert_bytes_arg (P := Tryz.prog) wr 116 5 Tryz.underlying116 Tryz.underlying5 g2 0 16 c2 (bytesOf h l) (by simp [bytesOf]) (fun i hi => by
        rw [Nat.zero_add]; exact q5 i _ (by simp only [u8r, List.getElem?_map]; rw [List.getElem?_eq_getElem (by simpa [bytesOf] using hi)]; simp [List.getD_eq_getElem?_getD, List.getElem?_eq_getElem (show i < (bytesOf h l).length by simpa [bytesOf] using hi)])) 9 Tryz.underlying9
      go_wp2
      go_ret
      exact ⟨rfl, chain L1 hbel⟩
    · obtain ⟨m, rfl⟩ : ∃ m, j = m + 1 := ⟨j - 1, by omega⟩
      have em : (((m + 1 : Nat) : Int) - 1) = (m : Int) := by omega
      rw [em]
      have mx : m < xs.length := by rw [LX.out]; omega
      have i0' : (0 : Int) ≤ (m : Int) := by omega
      have i1' : (m : Int) < 8 := by omega
      have hstep := drop_reverse_step mx
      obtain ⟨d0, d1⟩ := dx xs[m] (by simp)
      obtain ⟨d, ed⟩ : ∃ d, xs[m] = d := ⟨_, rfl⟩
      have cd : wr.cell? ⟨g, m, none⟩ = some (.int .u64 d) := by
        rw [hbel.cell (p := ⟨g, m, none⟩) p3]; exact p4 m _ (by simp [u64s, mx, ed])
      rw [ed] at d0 d1 hstep
      have HS := hideIt hstep
      clear hstep ed em hz
      have hfar : some g ≠ u4.ownBlock := fun hx => by have := (hown.lt g hx.symm).1; omega
      have t1 : IntKind.u64.wrap (d.tdiv 256) = d / 256 := by rw [Int.tdiv_eq_ediv_of_nonneg d0, IntKind.wrap_u64]; omega
      have t5 : IntKind.u8.wrap (d.tmod 256) = d % 256 := by rw [Int.tmod_eq_emod_of_nonneg d0, IntKind.wrap_u8]; omega
      have t3 : IntKind.u8.wrap (d / 256) = d / 256 := by rw [IntKind.wrap_u8]; omega
      have t4 : IntKind.u8.wrap (d % 256) = d % 256 := by rw [IntKind.wrap_u8]; omega
      go_upto_region 6 with fail
      go_region_held3 (fun w' => w'.cell? ⟨g, m, none⟩ = some (.int .u64 d))
        (first
          | go_keep
          | (rw [hgrow.cell_far _ (by simp; omega) hfar]; assumption))
        ((refine step_append_lies _ (by rfl) _ _ _ (by rfl) w1.heap.size 5 i0 _ 1 1 Tryz.underlying116 hi hz0 hz1 hz2 rfl (by omega) _ _ _ (by rfl) ((hown.alloc _).drew)
              ⟨wr.heap.size, 0, none⟩ 2 2 [.int .u8 (d / 256), .int .u8 (d % 256)] (by rfl) (by rfl) (World.news_of_block (cs := #[.int .u8 (d / 256), .int .u8 (d % 256)]) (t := 5) (fr := (0, 0)) (heap_alloc_new wr _)) (by simp [Value.oneCell'])
              (by omega) (by unfold maxLen; omega) (by omega) (by simp; omega) (wr.heap.size + 1) (by simp) ?_; intro gg cap w2 hown1 hgrow hat hlt))
      go_wp2
      go_roundg m
      case measure => have := HG.out; omega
      case rel =>
        refine ⟨m, by omega, rfl, rfl, ?_, ?_⟩
        · rw [HS.out, twos_snoc]
          have e16 : 16 - 2 * m = 16 - 2 * (m + 1) + 2 := by omega
          rw [e16]
          simpa [u8r] using hown1
        · exact hbel.trans (((Below.refl w1.heap.size wr).alloc hs2 _).drew.grown hgrow (by simp; omega) (fun k hk => by have := (hown.lt k hk).1; omega))
end Go.Proofs.YtjndabnegmecmaaGreatDoor
