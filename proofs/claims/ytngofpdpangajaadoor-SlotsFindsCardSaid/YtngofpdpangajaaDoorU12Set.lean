/-
  Package slots' sets of slots, walked: mayHeight, size, take, has, takenBy, free; Free.
-/
import Derived.Test.YtngofpdpangajaaDoorW12Map
import Derived.Test.YtngofpdpangajaaDoorT12Acc
import Derived.WalkKit
import Derived.WalkSpells
import Derived.StillTactics
import Derived.RowKit3
import Derived.Outline
import Derived.BigQuiet
import Derived.Deep.QuietTactic
import Derived.LoopTactic
import Derived.Deep.RegionWith
import Derived.Deep.LoopGhost
namespace Go.Proofs.YtngofpdpangajaaDoor
set_option linter.unusedVariables false
set_option linter.unusedSimpArgs false
set_option maxRecDepth 10000
open Go.RowKit Go.Sort

/-- May a height be? -/
def shOk (h : Int) : Bool := decide (0 ≤ h ∧ h ≤ 10)
theorem smayHeight_any (h : Int) (w : World) : Calls Tryd.prog 51 #[.int .i64 h] w (Plain (.bool (shOk h)) w) := by
  unfold shOk
  by_cases h0 : 0 ≤ h
  · by_cases h1 : h ≤ 10
    · rw [decide_eq_true ⟨h0, h1⟩]
      have h2 : ¬ (10 < h) := by omega
      go_enter Tryd.func51, Tryd.ntmps51
      go_wp2
      go_ret
      exact ⟨rfl, rfl⟩
    · rw [decide_eq_false (fun k => h1 k.2)]
      have h2 : 10 < h := by omega
      go_enter Tryd.func51, Tryd.ntmps51
      go_wp2
      go_ret
      exact ⟨rfl, rfl⟩
  · rw [decide_eq_false (fun k => h0 k.1)]
    have h2 : h < 0 := by omega
    go_enter Tryd.func51, Tryd.ntmps51
    go_wp2
    go_ret
    exact ⟨rfl, rfl⟩
/-- How many slots there are. -/
def pw (h : Nat) : Int := 2 ^ h
theorem pw_bd (h : Nat) (hh : h ≤ 10) : 1 ≤ pw h ∧ pw h ≤ 1024 := by
  have : ∀ k : Fin 11, 1 ≤ pw k.val ∧ pw k.val ≤ 1024 := by decide +kernel
  exact this ⟨h, by omega⟩
theorem pw_nat (h : Nat) : pw h = ((2 ^ h : Nat) : Int) := by unfold pw; simp
theorem ssize_any (h : Nat) (hh : h ≤ 10) (w : World) : Calls Tryd.prog 38 #[.int .i64 h] w (Plain (.int .u64 (pw h)) w) := by
  have hm : ¬ ((h : Int) < 0) := by omega
  have hm2 : ¬ ((63 : Int) < (h : Int)) := by omega
  have hb := pw_bd h hh
  have hw : IntKind.u64.wrap ((2 : Int) ^ h) = pw h := by
    show IntKind.u64.wrap (pw h) = pw h
    rw [IntKind.wrap_u64]
    omega
  generalize pw h = A at *
  go_enter Tryd.func38, Tryd.ntmps38
  go_wp2
  go_ret
  exact ⟨rfl, rfl⟩
theorem stake_any (b : Nat) (ks : List Int) (k : Int) (hk : Word k) (hn : ks.length ≤ 1000000000) (w : World) (hS : SlotSet w b ks) :
    Calls Tryd.prog 55 #[.map (some b), .int .u64 k] w fun e w' => e = .returned (.tuple #[]) ∧ SlotSet w' b (ks ++ [k]) ∧ w.grownBy w' (some b) := by
  go_enter Tryd.func55, Tryd.ntmps55
  go_wp2_with (first
    | (at_mapUpdate; refine wpl_slot_put rfl _ _ _ 77 rfl und_taken rfl hS k hk rfl rfl hn ?_; intro w2 M2 hg2)
    | fail)
  exact bodyPost_end (v := .tuple #[]) (results_none Tryd.results55 _ _ _) rfl ⟨rfl, M2, hg2⟩
theorem shas_any (b : Nat) (ks : List Int) (k : Int) (hk : Word k) (q : Bool) (hq : decide (k ∈ ks) = q) (w : World) (hS : SlotSet w b ks) :
    Calls Tryd.prog 54 #[.map (some b), .int .u64 k] w (Tells (.bool q) w.heap.size w) := by
  go_enter Tryd.func54, Tryd.ntmps54
  go_wp2_with (first
    | (at_lookup; refine wpl_slot_look rfl _ _ 77 rfl und_taken rfl hS k hk rfl q hq ?_)
    | fail)
  go_ret
  exact ⟨rfl, by repeat (first | exact Below.refl _ _ | apply Below.drew | apply below_drewN | refine Below.alloc ?_ (by simp; try omega) _ | refine Below.setCell ?_ (by simp; try omega) _)⟩

set_option maxRecDepth 100000 in
set_option maxHeartbeats 2000000 in
theorem takenBy_any (A : Option Addr) (c : Nat) (xs : List Ac) (hm : xs.length ≤ 1000000) (ho : AllAc xs) (w : World) (hR : AcRow w w.heap.size A xs) :
    Calls Tryd.prog 52 #[.slice A xs.length c] w fun e w' => ∃ b, e = .returned (.map (some b)) ∧ w.heap.size ≤ b ∧ SlotSet w' b (xs.map Ac.slot) ∧ Below w.heap.size w w' := by
  have hmm := @run_makeMap Tryd.prog
  have M0 := SlotSet.made w
  have L0 := chainA (Below.refl w.heap.size w) (.map #[] 0)
  have cT := fun ks k hk hn u hu => stake_any w.heap.size ks k hk hn u hu
  go_enter Tryd.func52, Tryd.ntmps52
  go_wp2
  generalize w.alloc (.map #[] 0) = W at *
  go_loopg [9] xs.length (fun gk i wr => ∃ k : Nat, k ≤ xs.length ∧ xs.length - k ≤ gk ∧ i = .int .i64 k ∧ SlotSet wr w.heap.size ((xs.take k).map Ac.slot) ∧ Below w.heap.size w wr)
  case atStart => exact ⟨0, Nat.zero_le _, by omega, rfl, M0, L0⟩
  case round =>
    obtain ⟨k, hk, hgk, rfl, M, hb⟩ := hrel
    have HG := hideIt hgk
    clear hgk
    by_cases hlt : k < xs.length
    · obtain ⟨x, hx⟩ : ∃ x, xs[k]? = some x := ⟨_, List.getElem?_eq_getElem hlt⟩
      obtain ⟨ad, rfl, had, p0, p1, p2, p3, p4⟩ := (hR.call hb) k x hx
      have hlti : (k : Int) < (xs.length : Int) := by omega
      have p5 : (ad.add (k * 5)).block < wr.heap.size := by rw [o10_block]; exact Nat.lt_of_lt_of_le had hb.size
      have hok := (ho x (List.mem_of_getElem? hx)).2.2
      have ht := take_more1 hx
      have HT := hideIt ht
      clear hx ht
      have M1 := M.alloc (.cells #[.string x.id, .int .u64 x.h, .int .u64 x.l, .string x.salt, .int .u64 x.slot] 38)
      have B1 := Box.made wr 38 #[.string x.id, .int .u64 x.h, .int .u64 x.l, .string x.salt, .int .u64 x.slot]
      have L1 := chainA hb (.cells #[.string x.id, .int .u64 x.h, .int .u64 x.l, .string x.salt, .int .u64 x.slot] 38)
      go_upto_region 5 with fail
      generalize wr.alloc (.cells #[.string x.id, .int .u64 x.h, .int .u64 x.l, .string x.salt, .int .u64 x.slot] 38) = W1 at *
      have q4 : W1.cell? ⟨wr.heap.size, 4, none⟩ = some (.int .u64 x.slot) := B1.read 4
      have hin1 := B1.inside
      have hlen : ((xs.take k).map Ac.slot).length ≤ 1000000000 := by rw [List.length_map, List.length_take]; omega
      go_wp2_with (first
        | (go_at_call 55; refine (cT _ _ hok hlen _ M1).mono ?_; rintro e w2 ⟨rfl, M2, hg2⟩)
        | fail)
      go_roundg (xs.length - (k + 1))
      case measure => have := HG.out; omega
      case rel => exact ⟨k + 1, by omega, Nat.le_refl _, by go_num, by rw [HT.out, List.map_append]; exact M2, L1.grown hg2 (Nat.le_of_lt (Nat.lt_of_le_of_lt hb.size hin1)) (fun j hj => by injection hj with hj; omega)⟩
    · have e : k = xs.length := by omega
      subst e
      rw [List.take_length] at M
      go_wp2
      go_ret
      exact ⟨_, rfl, Nat.le_refl _, M, hb⟩

set_option maxRecDepth 100000 in
set_option maxHeartbeats 2000000 in
theorem sfree_any (b : Nat) (ks : List Int) (h : Nat) (hh : h ≤ 10) (f : Int) (hf : Word f) (w : World) (hS : SlotSet w b ks) :
    Calls Tryd.prog 53 #[.map (some b), .int .i64 h, .int .u64 f] w (Tells (.tuple #[.int .u64 (freeF (pw h) ks f).1, .bool (freeF (pw h) ks f).2]) w.heap.size w) := by
  have cS := fun u => ssize_any h hh u
  have cH := fun k hk q hq u hu => shas_any b ks k hk q hq u hu
  have hA := pw_bd h hh
  have hit := fun (s : Nat) (x : ∀ j, j < s → sq (pw h) f j ∈ ks) (y : (s : Int) < pw h) (z : sq (pw h) f s ∉ ks) => freeF_hit x y z
  have hno := fun (x : ∀ j : Nat, (j : Int) < pw h → sq (pw h) f j ∈ ks) => freeF_none x
  have hsb := fun s => sq_bd (A := pw h) (by omega) f s
  have hsd : ∀ s : Nat, sq (pw h) f s = (f % pw h + s) % pw h := fun s => rfl
  generalize freeF (pw h) ks f = V at *
  generalize sq (pw h) f = S at *
  obtain ⟨F, hF⟩ : ∃ F : Int, f % pw h = F := ⟨_, rfl⟩
  rw [hF] at hsd
  have hFb : 0 ≤ F ∧ F < pw h := by rw [← hF]; exact ⟨Int.emod_nonneg _ (by omega), Int.emod_lt_of_pos _ (by omega)⟩
  have hr : f.tmod (pw h) = F := by rw [← hF]; exact Int.tmod_eq_emod_of_nonneg hf.1
  generalize pw h = A at *
  have hA0 : ¬ A = 0 := by omega
  have hwF : IntKind.u64.wrap F = F := by rw [IntKind.wrap_u64]; omega
  have HF := hideIt hF
  have HH := hideIt hit
  have HN := hideIt hno
  have HSD := hideIt hsd
  clear hF hit hno hsd
  go_enter Tryd.func53, Tryd.ntmps53
  go_wp2_with (first
    | (go_at_call 38; refine (cS _).mono ?_; rintro e w1 ⟨rfl, rfl⟩)
    | fail)
  go_loopg [9, 10, 14] A.toNat (fun gk _ _ i wr => ∃ s : Nat, (s : Int) ≤ A ∧ A.toNat - s ≤ gk ∧ i = .int .u64 s ∧ (∀ j, j < s → S j ∈ ks) ∧ Below w.heap.size w wr)
  case atStart => exact ⟨0, by omega, by omega, rfl, fun j hj => absurd hj (Nat.not_lt_zero _), Below.refl _ _⟩
  case round =>
    obtain ⟨s, hs, hgk, rfl, hb, hbl⟩ := hrel
    have HG := hideIt hgk
    have HB := hideIt hb
    clear hgk hb
    by_cases hlt : (s : Int) < A
    · obtain ⟨G, hG⟩ : ∃ G : Int, F + s = G := ⟨_, rfl⟩
      have w1 : IntKind.u64.wrap (F + s) = G := by rw [IntKind.wrap_u64]; omega
      have w2 : G.tmod A = S s := by rw [HSD.out, hG]; exact Int.tmod_eq_emod_of_nonneg (by omega)
      obtain ⟨n, hn⟩ : ∃ n, S s = n := ⟨_, rfl⟩
      have hnb := hsb s
      rw [hn] at w2 hnb
      have w3 : IntKind.u64.wrap n = n := by rw [IntKind.wrap_u64]; omega
      have w4 : IntKind.u64.wrap ((s : Int) + 1) = ((s + 1 : Nat) : Int) := by rw [IntKind.wrap_u64]; omega
      have hwn : Word n := ⟨by omega, by omega⟩
      have HGG := hideIt hG
      have HNN := hideIt hn
      clear hG hn
      by_cases hm : n ∈ ks
      · have cH1 := fun u hu => cH n hwn true (decide_eq_true hm) u hu
        go_wp2_with (first
          | (go_at_call 54; refine (cH1 _ (hS.call hbl)).mono ?_; rintro e v2 ⟨rfl, j2⟩)
          | fail)
        go_roundg (A.toNat - (s + 1))
        case measure => have := HG.out; omega
        case rel => exact ⟨s + 1, by omega, Nat.le_refl _, rfl, fun j hj => by
            by_cases e : j = s
            · subst e; rw [HNN.out]; exact hm
            · exact HB.out j (by omega), chain hbl j2⟩
      · have cH1 := fun u hu => cH n hwn false (decide_eq_false hm) u hu
        have hv := HH.out s HB.out hlt (by rw [HNN.out]; exact hm)
        rw [HNN.out] at hv
        have HV := hideIt hv
        clear hv
        go_wp2_with (first
          | (go_at_call 54; refine (cH1 _ (hS.call hbl)).mono ?_; rintro e v2 ⟨rfl, j2⟩)
          | fail)
        refine bodyPost_ret (results_tmp2 rfl _ _ _) rfl ?_
        rw [HV.out]
        exact ⟨rfl, chain hbl j2⟩
    · have hv := HN.out (fun j hj => HB.out j (by omega))
      have HV := hideIt hv
      clear hv
      go_wp2
      refine bodyPost_ret (results_tmp2 rfl _ _ _) rfl ?_
      rw [HV.out]
      exact ⟨rfl, hbl⟩
/-- The first free slot of accounts. -/
def freeA (h : Int) (xs : List Ac) (f : Int) : Int × Bool := if shOk h = true then freeF (pw h.toNat) (xs.map Ac.slot) f else (0, false)
set_option maxHeartbeats 1000000 in
theorem sFree_any (A : Option Addr) (c : Nat) (xs : List Ac) (hm : xs.length ≤ 1000000) (ho : AllAc xs) (h f : Int) (hf : Word f) (w : World) (hR : AcRow w w.heap.size A xs) :
    Calls Tryd.prog 20 #[.slice A xs.length c, .int .i64 h, .int .u64 f] w (Tells (.tuple #[.int .u64 (freeA h xs f).1, .bool (freeA h xs f).2]) w.heap.size w) := by
  have cM := fun u => smayHeight_any h u
  unfold freeA
  cases hk : shOk h with
  | false =>
    rw [hk] at cM
    rw [if_neg Bool.noConfusion]
    go_enter Tryd.func20, Tryd.ntmps20
    go_wp2_with (first | (go_at_call 51; refine (cM _).mono ?_; rintro e v1 ⟨rfl, rfl⟩) | fail)
    refine bodyPost_ret (results_tmp2 rfl _ _ _) rfl ?_
    exact ⟨rfl, Below.refl _ _⟩
  | true =>
    rw [hk] at cM
    rw [if_pos rfl]
    have hb := of_decide_eq_true hk
    obtain ⟨n, rfl⟩ := Int.eq_ofNat_of_zero_le hb.1
    rw [Int.toNat_natCast]
    have cT := fun u hu => takenBy_any A c xs hm ho u hu
    have cF := fun b u hu => sfree_any b (xs.map Ac.slot) n (by omega) f hf u hu
    generalize freeF (pw n) (xs.map Ac.slot) f = V at *
    generalize xs.length = N at *
    go_enter Tryd.func20, Tryd.ntmps20
    go_wp2_with (first
      | (go_at_call 51; refine (cM _).mono ?_; rintro e v1 ⟨rfl, rfl⟩)
      | (go_at_call 52; refine (cT _ hR).mono ?_; rintro e v2 ⟨b, rfl, hb2, M2, j2⟩)
      | (go_at_call 53; refine (cF _ _ M2).mono ?_; rintro e v3 ⟨rfl, j3⟩)
      | fail)
    refine bodyPost_ret (results_tmp2 rfl _ _ _) rfl ?_
    exact ⟨rfl, chain j2 j3⟩
end Go.Proofs.YtngofpdpangajaaDoor
