/-
  Package slots' Leaves, walked: the pads, then the accounts' leaves over them.
-/
import Derived.Test.YtngofpdpangajaaDoorD12Leaf
import Derived.Test.YtngofpdpangajaaDoorT12Leaf
import Derived.Test.YtngofpdpangajaaDoorM12Plc
namespace Go.Proofs.YtngofpdpangajaaDoor
set_option linter.unusedVariables false
set_option linter.unusedSimpArgs false
set_option maxRecDepth 10000
open Go.RowKit Go.Sort
attribute [local go_sem] Oper.semAt_some

theorem infoS_lf : (Tryd.prog.info? 46).map (fun i => (i.zero, i.size, i.bytes)) = some (some (.agg #[.bool false, .string ⟨#[]⟩, .string ⟨#[]⟩, .int .u64 0, .int .u64 0]), 5, 56) := by kernel_rfl
theorem made_lfs (n : Nat) : madeCells #[.bool false, .string ⟨#[]⟩, .string ⟨#[]⟩, .int .u64 0, .int .u64 0] (n * 5) = (lfCs (List.replicate n Lf.zero)).toArray := by
  apply Array.ext'
  apply List.ext_getElem?
  intro i
  by_cases hi : i < n * 5
  · obtain ⟨q, r, hr, e⟩ : ∃ q r, r < 5 ∧ i = q * 5 + r := ⟨i / 5, i % 5, Nat.mod_lt _ (by decide), by omega⟩
    subst e
    rw [lfCs_at (List.replicate n Lf.zero) q Lf.zero (by rw [List.getElem?_replicate, if_pos (by omega)]) r hr]
    have h1 : (madeCells #[Value.bool false, .string ⟨#[]⟩, .string ⟨#[]⟩, .int .u64 0, .int .u64 0] (n * 5)).toList[q * 5 + r]? = some (#[Value.bool false, .string ⟨#[]⟩, .string ⟨#[]⟩, .int .u64 0, .int .u64 0][(q * 5 + r) % 5]!) := by
      rw [Array.getElem?_toList]
      unfold madeCells
      rw [Array.getElem?_map, Array.getElem?_range, if_pos hi]
      rfl
    rw [h1, show (q * 5 + r) % 5 = r by omega]
    match r, hr with
    | 0, _ => rfl
    | 1, _ => rfl
    | 2, _ => rfl
    | 3, _ => rfl
    | 4, _ => rfl
  · rw [List.getElem?_eq_none (by simp [madeCells]; omega), List.getElem?_eq_none (by rw [List.toList_toArray, lfCs_len, List.length_replicate]; omega)]
theorem make_lfs (n : Nat) (hn : n ≤ 1000000000) (u : World) : (Instr.makeSlice 49 (.int .u64 (n : Int)) (.int .u64 (n : Int))).run Tryd.prog u = .ok (.slice (some ⟨u.heap.size, 0, none⟩) n n) (u.alloc (.cells (lfCs (List.replicate n Lf.zero)).toArray 46)) := by
  obtain ⟨i0, hi, hz0, hz1, hz2⟩ := info_parts infoS_lf
  have h := run_make (P := Tryd.prog) u 49 46 i0 _ Tryd.underlying49 hi hz0 .u64 .u64 (n : Int) (n : Int) (by omega) (by omega) (by rw [hz2]; omega) (by omega)
  rw [hz1, Int.toNat_natCast] at h
  rw [← made_lfs]
  exact h
/-- A leaf is written. -/
def putL (W : World) (g i : Nat) (x : Lf) : World :=
  ((((W.setCell ⟨g, i * 5, none⟩ (.bool x.pad)).setCell ⟨g, i * 5 + 1, none⟩ (.string x.id)).setCell ⟨g, i * 5 + 2, none⟩ (.string x.salt)).setCell ⟨g, i * 5 + 3, none⟩ (.int .u64 x.h)).setCell ⟨g, i * 5 + 4, none⟩ (.int .u64 x.l)
theorem putL_other (W : World) (g i : Nat) (x : Lf) (k : Nat) (hk : k ≠ g) : (putL W g i x).heap[k]? = W.heap[k]? := by
  unfold putL
  rw [Below.heap_setCell _ _ _ _ hk, Below.heap_setCell _ _ _ _ hk, Below.heap_setCell _ _ _ _ hk, Below.heap_setCell _ _ _ _ hk, Below.heap_setCell _ _ _ _ hk]
/-- The leaves so far, who stands where, and all else as it lay. -/
def LvS (w : World) (g b : Nat) (S : List Int) (d : List Lf) (W : World) : Prop := LfBox W g d ∧ SlotSet W b S ∧ Below w.heap.size w W ∧ g ≠ b ∧ w.heap.size ≤ g
theorem LvS.call {w W W' : World} {g b : Nat} {S : List Int} {d : List Lf} (p : LvS w g b S d W) (h : Below W.heap.size W W') : LvS w g b S d W' := ⟨p.1.call h, p.2.1.call h, p.2.2.1.trans (h.mono p.2.2.1.size), p.2.2.2⟩
theorem LvS.put {w W : World} {g b : Nat} {S : List Int} {d : List Lf} (p : LvS w g b S d W) (i : Nat) (x : Lf) (hi : i < d.length) : LvS w g b S (d.set i x) (putL W g i x) :=
  ⟨p.1.put i x hi, p.2.1.same (putL_other _ _ _ _ _ (fun e => p.2.2.2.1 e.symm)), below5_put p.2.2.1 p.2.2.2.2 _ _ _ _ _ _ _ _ _ _, p.2.2.2⟩
set_option maxRecDepth 100000 in
set_option maxHeartbeats 4000000 in
theorem sleaves_bad (seed : ByteArray) (h : Int) (A : Option Addr) (c : Nat) (l : List Ac) (hm : l.length ≤ 1000000) (ho : AllAc l) (hz : ∀ x ∈ l, x.id.size ≤ 1000000 ∧ x.salt.size ≤ 1000000) (E : Int) (hE : wrongE seed h l = E) (h0 : E ≠ 0) (w : World) (hR : AcRow w w.heap.size A l) (hT : TabU w) :
    Calls Tryd.prog 26 #[.string seed, .int .i64 h, .slice A l.length c] w (Tells (.tuple #[.slice none 0 0, .int .i64 E]) w.heap.size w) := by
  have cW := fun u hu hv => swrong_any seed A c l hm ho hz h u hu hv
  rw [hE] at cW
  have q0 : (E != 0) = true := bne_iff_ne.2 h0
  clear hE
  go_enter Tryd.func26, Tryd.ntmps26
  go_wp2_with (first | (go_at_call 35; refine (cW _ hR hT).mono ?_; rintro e w1 ⟨rfl, j1⟩) | fail)
  refine bodyPost_ret (results_tmp2 rfl _ _ _) rfl ?_
  exact ⟨rfl, j1⟩
set_option maxRecDepth 100000 in
set_option maxHeartbeats 8000000 in
theorem sleaves_any (seed : ByteArray) (h1 : seed.size ≤ 100000) (n : Nat) (A : Option Addr) (c : Nat) (l : List Ac) (hm : l.length ≤ 1000000) (ho : AllAc l) (hz : ∀ x ∈ l, x.id.size ≤ 1000000 ∧ x.salt.size ≤ 1000000) (hE : wrongE seed n l = 0) (N : Nat) (hN : pw n = (N : Int)) (w : World) (hR : AcRow w w.heap.size A l) (hT : TabU w) (hK : Tab w) :
    Calls Tryd.prog 26 #[.string seed, .int .i64 n, .slice A l.length c] w fun e w' => Below w.heap.size w w' ∧ ∃ g, e = .returned (.tuple #[.slice (some ⟨g, 0, none⟩) N N, .int .i64 0]) ∧ w.heap.size ≤ g ∧ LfBox w' g (leavesL seed l N) := by
  have cW := fun u hu hv => swrong_any seed A c l hm ho hz n u hu hv
  rw [hE] at cW
  obtain ⟨-, -, hma⟩ := wrong_no hE
  obtain ⟨n', hn', hn, hMP⟩ := mayA_P hma
  obtain rfl : n = n' := by omega
  have hpb := pw_bd n hn
  rw [hN] at hpb hMP
  have cZ := fun u => ssize_any n hn u
  rw [hN] at cZ
  have cB := fun u hu => takenBy_any A c l hm ho u hu
  have hmk := make_lfs N (by omega)
  clear hE hma
  obtain ⟨M, hM⟩ : ∃ M, l.length = M := ⟨_, rfl⟩
  rw [hM] at cW cB ⊢
  have hl1 := lf1_none seed (l.map Ac.slot) N
  obtain ⟨S, hS⟩ : ∃ S, l.map Ac.slot = S := ⟨_, rfl⟩
  rw [hS] at cB
  go_enter Tryd.func26, Tryd.ntmps26
  go_upto_region 4 with (first | (go_at_call 35; refine (cW _ hR hT).mono ?_; rintro e w1 ⟨rfl, j1⟩) | fail)
  have R1 := (hR.call j1).more j1.size
  go_cut [9, 10] (fun p q W => ∃ g b, p = .slice (some ⟨g, 0, none⟩) N N ∧ q = .map (some b) ∧ LvS w g b S (List.replicate N Lf.zero) W)
  case first =>
    refine wp_region_held_drew (S := fun u => Below w1.heap.size w1 u) (by kernel_rfl) (Below.refl _ _).drew (fun hHeld => ?_)
    have b0 := (Below.refl w1.heap.size w1).drew
    refine wpAnyH_take (i := 0) (v := ?_) rfl (by kernel_rfl) (by kernel_rfl) (by kernel_rfl) (fun _ _ _ h => h) (Or.inl ⟨by rfl, ?_⟩) (by assumption) ?_
    rotate_left 1
    · intro w hSw; (try dsimp only at hSw); go_simp; try with_reducible rfl
    try simp only [Act.put, List.getElem_toArray, List.getElem_cons_succ, List.getElem_cons_zero, List.setIfInBounds_toArray, List.set_cons_zero, List.set_cons_succ]
    refine wpAnyH_take (i := 3) (v := ?_) rfl (by kernel_rfl) (by kernel_rfl) (by kernel_rfl) (fun _ _ _ h => h) (Or.inl ⟨by rfl, ?_⟩) (by assumption) ?_
    rotate_left 1
    · intro w hSw; (try dsimp only at hSw); go_simp; try with_reducible rfl
    try simp only [Act.put, List.getElem_toArray, List.getElem_cons_succ, List.getElem_cons_zero, List.setIfInBounds_toArray, List.set_cons_zero, List.set_cons_succ]
    refine wpAnyH_ready (rs := [1]) (by kernel_rfl) (by simp) (AllReadyH.cons rfl (fun K hK => ?_) AllReadyH.nil)
    go_simp
    go_at_call 38
    refine (cZ _).mono ?_
    rintro e w2 ⟨rfl, rfl⟩
    try simp only []
    refine hK.out _ _ (b0) (fun hHeld => ?_)
    clear hK K
    try simp only [Act.put, List.getElem_toArray, List.getElem_cons_succ, List.getElem_cons_zero, List.setIfInBounds_toArray, List.set_cons_zero, List.set_cons_succ]
    refine wpAnyH_ready (rs := [2, 4]) (by kernel_rfl) (by simp) (AllReadyH.cons rfl (fun K hK => ?_) (AllReadyH.cons rfl (fun K hK => ?_) AllReadyH.nil))
    · go_simp
      have x2 : LfBox (w1.alloc (.cells (lfCs (List.replicate N Lf.zero)).toArray 46)).drew w1.heap.size (List.replicate N Lf.zero) := Box.made w1 46 (lfCs (List.replicate N Lf.zero)).toArray
      have b2 := (chainA (Below.refl w1.heap.size w1) (.cells (lfCs (List.replicate N Lf.zero)).toArray 46)).drew
      generalize (w1.alloc (.cells (lfCs (List.replicate N Lf.zero)).toArray 46)).drew = w2 at *
      refine hK.out _ _ (b2) (fun hHeld => ?_)
      clear hK K
      try simp only [Act.put, List.getElem_toArray, List.getElem_cons_succ, List.getElem_cons_zero, List.setIfInBounds_toArray, List.set_cons_zero, List.set_cons_succ]
      refine wpAnyH_ready (rs := [4]) (by kernel_rfl) (by simp) (AllReadyH.cons rfl (fun K hK => ?_) AllReadyH.nil)
      go_simp
      go_at_call 52
      refine (cB _ ((R1.call b2).more b2.size)).mono ?_
      rintro e w3 ⟨b, rfl, hb, S3, b3⟩
      have hin := x2.inside
      have b4 := chain b2 b3
      try simp only []
      refine hK.out _ _ (b4) (fun hHeld => ?_)
      clear hK K
      try simp only [Act.put, List.getElem_toArray, List.getElem_cons_succ, List.getElem_cons_zero, List.setIfInBounds_toArray, List.set_cons_zero, List.set_cons_succ]
      refine wpAnyH_take (i := 5) (v := ?_) rfl (by kernel_rfl) (by kernel_rfl) (by kernel_rfl) (fun _ _ _ h => h) (Or.inl ⟨by rfl, ?_⟩) (by assumption) ?_
      rotate_left 1
      · intro w hSw; (try dsimp only at hSw); go_simp; try with_reducible rfl
      try simp only [Act.put, List.getElem_toArray, List.getElem_cons_succ, List.getElem_cons_zero, List.setIfInBounds_toArray, List.set_cons_zero, List.set_cons_succ]
      refine wpAnyH_take (i := 6) (v := ?_) rfl (by kernel_rfl) (by kernel_rfl) (by kernel_rfl) (fun _ _ _ h => h) (Or.inl ⟨by rfl, ?_⟩) (by assumption) ?_
      rotate_left 1
      · intro w hSw; (try dsimp only at hSw); go_simp; try with_reducible rfl
      try simp only [Act.put, List.getElem_toArray, List.getElem_cons_succ, List.getElem_cons_zero, List.setIfInBounds_toArray, List.set_cons_zero, List.set_cons_succ]
      refine wpAnyH_done (by kernel_rfl) ?_ _
      go_wp2
      go_meet
      exact ⟨_, _, rfl, rfl, x2.call b3, S3, chain j1 b4, by omega, by have := j1.size; have := b0.size; omega⟩
    · go_simp
      go_at_call 52
      refine (cB _ ((R1.call b0).more b0.size)).mono ?_
      rintro e w2 ⟨b, rfl, hb, S2, b2⟩
      have b3 := chain b0 b2
      try simp only []
      refine hK.out _ _ (b3) (fun hHeld => ?_)
      clear hK K
      try simp only [Act.put, List.getElem_toArray, List.getElem_cons_succ, List.getElem_cons_zero, List.setIfInBounds_toArray, List.set_cons_zero, List.set_cons_succ]
      refine wpAnyH_ready (rs := [2]) (by kernel_rfl) (by simp) (AllReadyH.cons rfl (fun K hK => ?_) AllReadyH.nil)
      go_simp
      have x3 := Box.made w2 46 (lfCs (List.replicate N Lf.zero)).toArray
      have S3 := S2.alloc (.cells (lfCs (List.replicate N Lf.zero)).toArray 46)
      have b4 := chainA b3 (.cells (lfCs (List.replicate N Lf.zero)).toArray 46)
      have hlt := S2.lt
      refine hK.out _ _ (b4) (fun hHeld => ?_)
      clear hK K
      try simp only [Act.put, List.getElem_toArray, List.getElem_cons_succ, List.getElem_cons_zero, List.setIfInBounds_toArray, List.set_cons_zero, List.set_cons_succ]
      refine wpAnyH_take (i := 5) (v := ?_) rfl (by kernel_rfl) (by kernel_rfl) (by kernel_rfl) (fun _ _ _ h => h) (Or.inl ⟨by rfl, ?_⟩) (by assumption) ?_
      rotate_left 1
      · intro w hSw; (try dsimp only at hSw); go_simp; try with_reducible rfl
      try simp only [Act.put, List.getElem_toArray, List.getElem_cons_succ, List.getElem_cons_zero, List.setIfInBounds_toArray, List.set_cons_zero, List.set_cons_succ]
      refine wpAnyH_take (i := 6) (v := ?_) rfl (by kernel_rfl) (by kernel_rfl) (by kernel_rfl) (fun _ _ _ h => h) (Or.inl ⟨by rfl, ?_⟩) (by assumption) ?_
      rotate_left 1
      · intro w hSw; (try dsimp only at hSw); go_simp; try with_reducible rfl
      try simp only [Act.put, List.getElem_toArray, List.getElem_cons_succ, List.getElem_cons_zero, List.setIfInBounds_toArray, List.set_cons_zero, List.set_cons_succ]
      refine wpAnyH_done (by kernel_rfl) ?_ _
      go_wp2
      go_meet
      exact ⟨_, _, rfl, rfl, x3, S3, chain j1 b4, by omega, by have := j1.size; have := b3.size; omega⟩
  case rest =>
    obtain ⟨g, b, rfl, rfl, P0⟩ := hcut
    rw [← hl1, hS] at P0
    clear cW cZ cB hmk R1 j1 hl1
    go_wp2
    go_loopg [29] N (fun gk i wr => ∃ k : Nat, k ≤ N ∧ N - k ≤ gk ∧ i = .int .i64 k ∧ LvS w g b S ((List.range N).map (lf1 seed S k)) wr)
    case atStart => exact ⟨0, Nat.zero_le _, by omega, rfl, P0⟩
    case round =>
      obtain ⟨k, hk, hgk, rfl, p⟩ := hrel
      have HG := hideIt hgk
      clear hgk P0
      by_cases hlt : k < N
      · have hlti : (k : Int) < (N : Int) := by omega
        have hwk : IntKind.u64.wrap (k : Int) = (k : Int) := by rw [IntKind.wrap_u64]; omega
        have hkw : Word (k : Int) := ⟨by omega, by show (k : Int) < _; omega⟩
        have hdl : ((List.range N).map (lf1 seed S k)).length = N := by simp
        obtain ⟨q, hq⟩ : ∃ q, decide ((k : Int) ∈ S) = q := ⟨_, rfl⟩
        have cH := fun u hu => shas_any b S k hkw q hq u hu
        have cP := fun u hu => pad_any seed k h1 hkw u hu
        have HQ := hideIt hq
        clear hq
        cases q with
        | true =>
          have hin : (k : Int) ∈ S := of_decide_eq_true HQ.out
          have HIN := hideIt hin
          clear hin
          go_wp2_with (first
            | (go_at_call 54; refine (cH _ p.2.1).mono ?_; rintro e w2 ⟨rfl, k2⟩)
            | fail)
          have p2 := p.call k2
          go_roundg (N - (k + 1))
          case measure => have := HG.out; omega
          case rel => exact ⟨k + 1, by omega, Nat.le_refl _, by go_num, by rw [lf1_in N HIN.out]; exact p2⟩
        | false =>
          have hout : ¬ (k : Int) ∈ S := of_decide_eq_false HQ.out
          have HOUT := hideIt hout
          clear hout
          go_upto_region 10 with (first
            | (go_at_call 54; refine (cH _ p.2.1).mono ?_; rintro e w2 ⟨rfl, k2⟩)
            | fail)
          have p2 := p.call k2
          have hin2 := p2.1.inside
          obtain ⟨X, hX⟩ : ∃ X, padLf seed k = X := ⟨_, rfl⟩
          have hst := lf1_out (seed := seed) N HOUT.out
          rw [hX] at cP hst
          obtain ⟨pp, pi, ps, ph, pl⟩ := X
          simp only [Lf.val] at cP
          have HSTP := hideIt hst
          clear hst hX
          go_wp2_with (first
            | (go_at_call 33; refine (cP _ (hK.call p2.2.2.1)).mono ?_; rintro e w3 ⟨rfl, k3⟩
               have p3 := p2.call k3
               obtain ⟨x0, hx0, e0, e1, e2, e3, e4⟩ := p3.1.at k (by rw [hdl]; exact hlt)
               have f0 := p3.1.free (k * 5)
               have f1 := p3.1.free (k * 5 + 1)
               have f2 := p3.1.free (k * 5 + 2)
               have f3 := p3.1.free (k * 5 + 3)
               have f4 := p3.1.free (k * 5 + 4)
               have hin3 := p3.1.inside)
            | fail)
          go_roundg (N - (k + 1))
          case measure => have := HG.out; omega
          case rel => exact ⟨k + 1, by omega, Nat.le_refl _, by go_num, by rw [← HSTP.out]; exact p3.put k ⟨pp, pi, ps, ph, pl⟩ (by rw [hdl]; exact hlt)⟩
      · have e : k = N := by omega
        subst e
        clear HG
        go_wp2
        go_loopg [47] M (fun gk i wq => ∃ j : Nat, j ≤ M ∧ M - j ≤ gk ∧ i = .int .i64 j ∧ LvS w g b S ((List.range k).map (lf2 seed S k (l.take j))) wq)
        case atStart => exact ⟨0, Nat.zero_le _, by omega, rfl, by rw [List.take_zero, lf2_nil]; exact p⟩
        case round =>
          rename World => wq
          obtain ⟨j, hj, hgj, rfl, p⟩ := hrel
          have HG := hideIt hgj
          clear hgj
          by_cases hjl : j < M
          · have hjli : (j : Int) < (M : Int) := by omega
            obtain ⟨x, hx⟩ : ∃ x, l[j]? = some x := ⟨_, List.getElem?_eq_getElem (by omega)⟩
            have hxm := List.mem_of_getElem? hx
            have hxz := hz x hxm
            have hxo := (ho x hxm).2.2
            have hok := hMP.1 x hxm
            rw [okA_def, Bool.and_eq_true, Bool.and_eq_true] at hok
            obtain ⟨m, hm⟩ := Int.eq_ofNat_of_zero_le hxo.1
            have hmk : m < k := by have := of_decide_eq_true hok.2.2; omega
            have hmki : (m : Int) < (k : Int) := by omega
            have hnot : ¬ (m : Int) ∈ (l.take j).map Ac.slot := by
              have := (mayP_at hMP hx).2.2
              rw [hm] at this
              exact this
            have hstep := lf2_snoc (seed := seed) (S := S) k hm hnot
            rw [← take_more1 hx] at hstep
            have cL := fun u => sleaf_any x hxz.1 hxz.2 u
            have hxv : lfA x = ⟨false, x.id, x.salt, x.h, x.l⟩ := rfl
            rw [hxv] at cL hstep
            obtain ⟨ad, rfl, had, p0, p1, p2, p3, p4⟩ := (hR.call p.2.2.1) j x hx
            have p5 : (ad.add (j * 5)).block < wq.heap.size := by rw [o10_block]; exact Nat.lt_of_lt_of_le had p.2.2.1.size
            rw [hm] at p4
            obtain ⟨ix, hxh, lx, sx, nx⟩ := x
            simp only at hm p0 p1 p2 p3 hxz hstep
            simp only [Lf.val, Ac.val] at cL
            subst hm
            have HST := hideIt hstep
            clear hx hxm hxo hok hnot hstep
            have P1 := p.call (chainA (Below.refl wq.heap.size wq) (.cells (acB ix hxh lx sx m) 38))
            have B1 := Box.made wq 38 (acB ix hxh lx sx m)
            have hgq := p.1.inside
            go_upto_region 15 with fail
            change Code.wp _ _ _ _ (wq.alloc (.cells (acB ix hxh lx sx m) 38))
            obtain ⟨ga, hga⟩ : ∃ ga, wq.heap.size = ga := ⟨_, rfl⟩
            rw [hga] at B1 ⊢
            generalize wq.alloc (.cells (acB ix hxh lx sx m) 38) = W1 at *
            have hgw := hgq
            rw [hga] at hgw
            clear p0 p1 p2 p3 p4 p5 hga hgq
            have hgin := P1.1.inside
            have hgga : g < ga := hgw
            have hS5 : ∀ u, Below W1.heap.size W1 u → u.cell? ⟨ga, 0, none⟩ = some (.string ix) ∧ u.cell? ⟨ga, 1, none⟩ = some (.int .u64 hxh) ∧ u.cell? ⟨ga, 2, none⟩ = some (.int .u64 lx) ∧ u.cell? ⟨ga, 3, none⟩ = some (.string sx) ∧ u.cell? ⟨ga, 4, none⟩ = some (.int .u64 m) ∧ ga < u.heap.size ∧ g < u.heap.size := fun u hb =>
              ⟨(B1.call hb).read 0, (B1.call hb).read 1, (B1.call hb).read 2, (B1.call hb).read 3, (B1.call hb).read 4, (B1.call hb).inside, Nat.lt_of_lt_of_le hgin hb.size⟩
            refine wp_region_held_drew (S := fun u => u.cell? ⟨ga, 0, none⟩ = some (.string ix) ∧ u.cell? ⟨ga, 1, none⟩ = some (.int .u64 hxh) ∧ u.cell? ⟨ga, 2, none⟩ = some (.int .u64 lx) ∧ u.cell? ⟨ga, 3, none⟩ = some (.string sx) ∧ u.cell? ⟨ga, 4, none⟩ = some (.int .u64 m) ∧ ga < u.heap.size ∧ g < u.heap.size) (by kernel_rfl) (hS5 _ (Below.refl _ _).drew) (fun hHeld => ?_)
            have b0 := (Below.refl W1.heap.size W1).drew
            refine wpAnyH_take (i := 0) (v := ?_) rfl (by kernel_rfl) (by kernel_rfl) (by kernel_rfl) (fun _ _ _ h => h) (Or.inl ⟨by rfl, ?_⟩) (by assumption) ?_
            rotate_left 1
            · intro w hSw; (try dsimp only at hSw); go_simp; try with_reducible rfl
            try simp only [Act.put, List.getElem_toArray, List.getElem_cons_succ, List.getElem_cons_zero, List.setIfInBounds_toArray, List.set_cons_zero, List.set_cons_succ]
            refine wpAnyH_take (i := 1) (v := ?_) rfl (by kernel_rfl) (by kernel_rfl) (by kernel_rfl) (fun _ _ _ h => h) (Or.inl ⟨by rfl, ?_⟩) (by assumption) ?_
            rotate_left 1
            · intro w hSw; (try dsimp only at hSw); go_simp; try with_reducible rfl
            try simp only [Act.put, List.getElem_toArray, List.getElem_cons_succ, List.getElem_cons_zero, List.setIfInBounds_toArray, List.set_cons_zero, List.set_cons_succ]
            refine wpAnyH_take (i := 2) (v := ?_) rfl (by kernel_rfl) (by kernel_rfl) (by kernel_rfl) (fun _ _ _ h => h) (Or.inl ⟨by rfl, ?_⟩) (by assumption) ?_
            rotate_left 1
            · intro w hSw; (try dsimp only at hSw); go_simp; try with_reducible rfl
            try simp only [Act.put, List.getElem_toArray, List.getElem_cons_succ, List.getElem_cons_zero, List.setIfInBounds_toArray, List.set_cons_zero, List.set_cons_succ]
            refine wpAnyH_take (i := 3) (v := ?_) rfl (by kernel_rfl) (by kernel_rfl) (by kernel_rfl) (fun _ _ _ h => h) (Or.inl ⟨by rfl, ?_⟩) (by assumption) ?_
            rotate_left 1
            · intro w hSw; (try dsimp only at hSw); go_simp; try with_reducible rfl
            try simp only [Act.put, List.getElem_toArray, List.getElem_cons_succ, List.getElem_cons_zero, List.setIfInBounds_toArray, List.set_cons_zero, List.set_cons_succ]
            refine wpAnyH_ready (rs := [4]) (by kernel_rfl) (by simp) (AllReadyH.cons rfl (fun K hK => ?_) AllReadyH.nil)
            go_simp
            go_at_call 24
            refine (cL _).mono ?_
            rintro e w3 ⟨rfl, k3⟩
            have b3 := chain b0 k3
            have P3 := P1.call b3
            have B3 := B1.call b3
            try simp only []
            refine hK.out _ _ (hS5 _ b3) (fun hHeld => ?_)
            clear hK K
            try simp only [Act.put, List.getElem_toArray, List.getElem_cons_succ, List.getElem_cons_zero, List.setIfInBounds_toArray, List.set_cons_zero, List.set_cons_succ]
            refine wpAnyH_take (i := 5) (v := ?_) rfl (by kernel_rfl) (by kernel_rfl) (by kernel_rfl) (fun _ _ _ h => h) (Or.inl ⟨by rfl, ?_⟩) (by assumption) ?_
            rotate_left 1
            · intro w hSw; (try dsimp only at hSw); go_simp; try with_reducible rfl
            try simp only [Act.put, List.getElem_toArray, List.getElem_cons_succ, List.getElem_cons_zero, List.setIfInBounds_toArray, List.set_cons_zero, List.set_cons_succ]
            have hdl : ((List.range k).map (lf2 seed S k (l.take j))).length = k := by simp
            obtain ⟨x0, hx0, e0, e1, e2, e3, e4⟩ := P3.1.at m (by rw [hdl]; exact hmk)
            have f0 := P3.1.free (m * 5)
            have f1 := P3.1.free (m * 5 + 1)
            have f2 := P3.1.free (m * 5 + 2)
            have f3 := P3.1.free (m * 5 + 3)
            have f4 := P3.1.free (m * 5 + 4)
            refine wpAnyH_ready (rs := [6]) (by kernel_rfl) (by simp) (AllReadyH.cons rfl (fun K hK => ?_) AllReadyH.nil)
            go_simp
            have P4 := P3.put m (lfA ⟨ix, hxh, lx, sx, m⟩) (by rw [hdl]; exact hmk)
            have hin4 := P4.1.inside
            clear e0 e1 e2 e3 e4 f0 f1 f2 f3 f4 hx0
            change K _ (putL w3 g m ⟨false, ix, sx, hxh, lx⟩)
            have B4 : Box (putL w3 g m ⟨false, ix, sx, hxh, lx⟩) ga 38 (acB ix hxh lx sx m) := (putL_other _ _ _ _ _ (by omega)).trans B3
            change LvS w g b S (((List.range k).map (lf2 seed S k (l.take j))).set m ⟨false, ix, sx, hxh, lx⟩) (putL w3 g m ⟨false, ix, sx, hxh, lx⟩) at P4
            generalize putL w3 g m ⟨false, ix, sx, hxh, lx⟩ = W4 at *
            refine hK.out _ _ (⟨B4.read 0, B4.read 1, B4.read 2, B4.read 3, B4.read 4, B4.inside, P4.1.inside⟩) (fun hHeld => ?_)
            clear hK K
            try simp only [Act.put, List.getElem_toArray, List.getElem_cons_succ, List.getElem_cons_zero, List.setIfInBounds_toArray, List.set_cons_zero, List.set_cons_succ]
            refine wpAnyH_done (by kernel_rfl) ?_ _
            go_wp2
            go_roundg (M - (j + 1))
            case measure => have := HG.out; omega
            case rel => exact ⟨j + 1, by omega, Nat.le_refl _, by go_num, by rw [← HST.out]; exact P4⟩
          · have e : j = M := by omega
            subst e
            rw [List.take_of_length_le (by omega), ← hS, lf2_end] at p
            go_wp2
            refine bodyPost_ret (results_tmp2 rfl _ _ _) rfl ?_
            exact ⟨p.2.2.1, g, rfl, p.2.2.2.2, p.1⟩
end Go.Proofs.YtngofpdpangajaaDoor
