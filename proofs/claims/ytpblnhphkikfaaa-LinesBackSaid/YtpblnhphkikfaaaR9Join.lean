/-
  paymasterref09.Check, Join, walked.
-/
import Derived.Test.YtpblnhphkikfaaaR9Split
import Derived.Laws.Concat
namespace Go.Proofs.Ytpblnhphkikfaaa
set_option linter.unusedVariables false
set_option linter.unusedSimpArgs false
set_option maxRecDepth 10000
open Go.RowKit Go.Lib

theorem split_ne (l : List UInt8) : splitL l ≠ [] := by
  intro h
  have := split_len l
  rw [h] at this
  simp at this
theorem split_mem (l : List UInt8) : ∀ x ∈ splitL l, x.length ≤ l.length := by
  induction l with
  | nil => intro x hx; simp [splitL] at hx; subst hx; simp
  | cons c r ih =>
    intro x hx
    rw [splitL] at hx
    by_cases h : c = 10
    · rw [if_pos h] at hx
      rcases List.mem_cons.1 hx with rfl | hx
      · simp
      · have := ih x hx; simp; omega
    · rw [if_neg h] at hx
      cases hs : splitL r with
      | nil => exact absurd hs (split_ne r)
      | cons y z =>
        rw [hs] at hx ih
        rcases List.mem_cons.1 hx with rfl | hx
        · have := ih y (by simp); simp; omega
        · have := ih x (by simp [hx]); simp; omega
theorem firstW_step (k : Nat) (x : List UInt8) (r : List (List UInt8)) : firstW (numb k (x :: r)) = if wrongL x = 0 then firstW (numb (k + 1) r) else (k, wrongL x) := rfl

set_option maxRecDepth 100000 in
set_option maxHeartbeats 2000000 in
theorem rcheck_any (s : ByteArray) (hs : s.size ≤ 1000000) (w : World) :
    Calls Try.prog 16 #[.string s] w (Tells (.tuple #[.int .i64 (firstW (linesL s.data.toList)).1, .int .i64 (firstW (linesL s.data.toList)).2]) w.heap.size w) := by
  obtain ⟨A, hA⟩ : ∃ A, firstW (linesL s.data.toList) = A := ⟨_, rfl⟩
  rw [hA]
  have HA := hideIt hA
  clear hA
  have cS := fun u => rsplit_any s hs u
  have hmem := split_mem s.data.toList
  have hne := split_ne s.data.toList
  unfold linesL at HA
  have hln := split_len s.data.toList
  have hcl := List.count_le_length (l := s.data.toList) (a := (10 : UInt8))
  rw [ba_size] at hmem hcl
  generalize splitL s.data.toList = l at *
  have hpos : 0 < l.length := List.length_pos_iff.2 hne
  have hll : l.length ≤ 1000001 := by omega
  have HM := hideIt hmem
  clear hmem hne hln hcl
  go_enter Try.func16, Try.ntmps16
  go_upto_region 3 with (first | (go_at_call 9; refine (cS _).mono ?_; rintro e w1 ⟨v, rfl, hO, b1⟩; obtain ⟨g, cap, rfl, hg, hgl, -, -, hcell, -⟩ := own_row hO hpos))
  go_wp2
  go_loopg [5, 6] l.length (fun gk i x wr => ∃ k : Nat, k ≤ l.length ∧ gk = l.length - k ∧ i = .int .i64 k ∧ Below w1.heap.size w1 wr ∧ Hid (firstW (numb (k + 1) (l.drop k)) = A))
  case atStart => exact ⟨0, by omega, rfl, rfl, Below.refl _ _, by exact HA⟩
  case round =>
    obtain ⟨k, hk, hgk, rfl, hb, hid⟩ := hrel
    have HG := hideIt hgk
    clear hgk
    have hkk : IntKind.i64.wrap ((k : Int) + 1) = ((k + 1 : Nat) : Int) := by rw [IntKind.wrap_i64]; omega
    by_cases hlt : k < l.length
    · obtain ⟨x, hx⟩ : ∃ x, l[k]? = some x := ⟨_, List.getElem?_eq_getElem hlt⟩
      have hdr : l.drop k = x :: l.drop (k + 1) := by
        rw [List.drop_eq_getElem_cons hlt]
        have := List.getElem?_eq_getElem hlt
        rw [hx] at this
        injection this with this
        rw [this]
      have e := hid.out
      rw [hdr, firstW_step] at e
      have hxs : (bA x).size ≤ 1000000 := by rw [bA_size]; have := HM.out x (List.mem_of_getElem? hx); omega
      have cW := fun u => rwrong_any (bA x) hxs u
      rw [bA_list] at cW
      have hc1 : w1.cell? ⟨g, k, none⟩ = some (.string (bA x)) := hcell k _ (by unfold strCs; rw [List.getElem?_map, hx]; rfl)
      have hc2 : wr.cell? ⟨g, k, none⟩ = some (.string (bA x)) := (hb.cell (p := ⟨g, k, none⟩) hgl).trans hc1
      have hgr : g < wr.heap.size := Nat.lt_of_lt_of_le hgl hb.size
      have hlti : (k : Int) < (l.length : Int) := by omega
      by_cases hw0 : wrongL x = 0
      · rw [if_pos hw0] at e
        rw [hw0] at cW
        have HE := hideIt e
        clear e hid hdr hx hc1 hw0 hxs
        go_wp2_with (first | (go_at_call 12; refine (cW _).mono ?_; rintro e w2 ⟨rfl, b2⟩))
        go_roundg (l.length - (k + 1))
        case measure => have := HG.out; omega
        case rel => exact ⟨k + 1, by omega, rfl, by go_num, chain hb b2, HE⟩
      · rw [if_neg hw0] at e
        subst e
        clear hid hdr hx hc1 hxs
        generalize wrongL x = q at *
        have hw0i : ¬ ((q : Int) = 0) := by omega
        go_wp2_with (first | (go_at_call 12; refine (cW _).mono ?_; rintro e w2 ⟨rfl, b2⟩))
        go_ret2
        exact ⟨rfl, chain b1 (chain hb b2)⟩
    · have e : k = l.length := by omega
      subst e
      have e := hid.out
      rw [List.drop_length] at e
      have e : A = (0, 0) := e.symm
      subst e
      clear hid
      go_wp2
      go_ret2
      exact ⟨rfl, chain b1 hb⟩
theorem split_many (l : List UInt8) : 1 < (splitL l).length ↔ has10 l = true := by
  rw [split_len, has10_iff]
  constructor
  · intro h; exact List.count_pos_iff.1 (by omega)
  · intro h; have := List.count_pos_iff.2 h; omega
theorem slice_of_own {W : World} {b : Nat} {e : TypeId} {v : Value} {n : Nat} {xs : List Value} (h : W.ownsRow b e 1 v n xs) : ∃ a c, v = .slice a n c := by
  rcases h.2 with ⟨h1, h2⟩ | ⟨g, cap, cur, h1, -⟩
  · exact ⟨none, 0, by rw [h1, h2]⟩
  · exact ⟨_, _, h1⟩

set_option maxRecDepth 100000 in
set_option maxHeartbeats 2000000 in
theorem rjoin_any (A : Option Addr) (c : Nat) (ss : List ByteArray) (hm : ss.length ≤ 9223372036854775807) (hz : ∀ s ∈ ss, s.size ≤ 1000000) (hl : (joinB ss).length ≤ 1000000) (w : World) (hr : StrRow w w.heap.size A ss) :
    Calls Try.prog 23 #[.slice A ss.length c] w (Tells (.tuple (if any10 ss then #[.string ⟨#[]⟩, .int .i64 2] else #[.string (bA (joinB ss)), .int .i64 0])) w.heap.size w) := by
  obtain ⟨R, hR⟩ : ∃ R, (if any10 ss then (#[.string ⟨#[]⟩, .int .i64 2] : Array Value) else #[.string (bA (joinB ss)), .int .i64 0]) = R := ⟨_, rfl⟩
  rw [hR]
  have HR := hideIt hR
  have HL := hideIt hl
  have HZ := hideIt hz
  clear hR hl hz
  go_enter Try.func23, Try.ntmps23
  go_wp2
  go_loopg [4, 5] ss.length (fun gk t i wr => ∃ k : Nat, k ≤ ss.length ∧ gk = ss.length - k ∧ i = .int .i64 k ∧ t = .string (bA (joinB (ss.take k))) ∧ Below w.heap.size w wr ∧ Hid (any10 (ss.take k) = false))
  case atStart => exact ⟨0, by omega, rfl, rfl, rfl, Below.refl _ _, rfl⟩
  case round =>
    obtain ⟨k, hk, hgk, rfl, rfl, hb, h10⟩ := hrel
    have HG := hideIt hgk
    clear hgk
    by_cases hlt : k < ss.length
    · obtain ⟨s, hs⟩ : ∃ s, ss[k]? = some s := ⟨_, List.getElem?_eq_getElem hlt⟩
      have htk : ss.take (k + 1) = ss.take k ++ [s] := by
        rw [List.take_add_one, hs]; rfl
      have hle := joinB_take ss (k + 1)
      have hle2 := HL.out
      have hlti : (k : Int) < (ss.length : Int) := by omega
      have fact : ∀ u, Below w.heap.size w u → ∃ ad, A = some ad ∧ u.cell? (ad.add k) = some (.string s) ∧ (ad.add k).block < u.heap.size := fun u hu => by
        obtain ⟨ad, e, h1, h2⟩ := hr.call hu k s hs
        exact ⟨ad, e, h2, by rw [addr_block]; exact Nat.lt_of_lt_of_le h1 hu.size⟩
      obtain ⟨ad, rfl, hac, hadw⟩ := fact wr hb
      have hmem : s ∈ ss := List.mem_of_getElem? hs
      have cS := fun u => rsplit_any s (HZ.out s hmem) u
      have hsp := split_many s.data.toList
      have hpos : 0 < (splitL s.data.toList).length := List.length_pos_iff.2 (split_ne _)
      obtain ⟨m, hmm⟩ : ∃ m, (splitL s.data.toList).length = m := ⟨_, rfl⟩
      rw [hmm] at hsp cS hpos
      cases hc : has10 s.data.toList
      · have hm1 : ¬ ((1 : Int) < (m : Int)) := by
          have h := mt hsp.1 (by rw [hc]; simp)
          omega
        have h10' : any10 (ss.take (k + 1)) = false := by
          rw [htk]
          have := h10.out
          unfold any10 at this ⊢
          rw [List.any_append, this]
          simp [hc]
        have H10 := hideIt h10'
        clear h10' h10 hsp hmm
        by_cases hk0 : k = 0
        · have e1 : joinB (ss.take (k + 1)) = s.data.toList := by rw [htk, hk0]; rfl
          have e0 : joinB (ss.take k) = [] := by rw [hk0]; rfl
          have hk0i : ¬ ((0 : Int) < (k : Int)) := by omega
          rw [e1] at hle
          rw [ba_size] at hle
          have HE := hideIt e1
          have E0 := hideIt e0
          have hadd : ∀ u : World, (Op.stringOp .add (bA (joinB (ss.take k))) s).run Try.prog u = .ok (.string s) u := fun u => by
            rw [run_string_add_sum u _ _ (by rw [bA_size, e0]; simp; omega), e0]
            congr 2
          clear e1 e0 hle hle2 htk hs hc hk0
          generalize bA (joinB (ss.take k)) = q at *
          go_upto_region 7 with (first
            | (go_at_call 9; refine (cS _).mono ?_; rintro e w2 ⟨v, rfl, hO, b2⟩; obtain ⟨a2, c2, rfl⟩ := slice_of_own hO))
          obtain ⟨ad', e', hac2, hadw2⟩ := fact w2 (chain hb b2)
          injection e' with e'
          subst e'
          clear hac hadw cS hO
          go_wp2
          go_roundg (ss.length - (k + 1))
          case measure => have := HG.out; omega
          case rel => exact ⟨k + 1, by omega, rfl, by go_num, by rw [HE.out, bA_of], chain hb b2, H10⟩
        · have e1 : joinB (ss.take (k + 1)) = joinB (ss.take k) ++ [10] ++ s.data.toList := by
            rw [htk, joinB_next _ _ (by intro e; have := congrArg List.length e; simp only [List.length_take, List.length_nil] at this; omega)]
          rw [e1] at hle
          simp only [List.length_append, List.length_singleton, ba_size] at hle
          have hk0i : (0 : Int) < (k : Int) := by omega
          have hadd1 : ∀ u : World, (Op.stringOp .add (bA (joinB (ss.take k))) ⟨#[10]⟩).run Try.prog u = .ok (.string (bA (joinB (ss.take k) ++ [10]))) u := fun u => by
            rw [run_string_add_sum u _ _ (by rw [bA_size]; show _ + 1 ≤ _; omega)]
            congr 2
          have hadd2 : ∀ u : World, (Op.stringOp .add (bA (joinB (ss.take k) ++ [10])) s).run Try.prog u = .ok (.string (bA (joinB (ss.take (k + 1))))) u := fun u => by
            rw [run_string_add_sum u _ _ (by rw [bA_size, List.length_append]; simp only [List.length_singleton]; omega), e1]
            congr 2
          clear e1 hle hle2 htk hs hc
          generalize bA (joinB (ss.take k)) = q at *
          generalize bA (joinB (ss.take k) ++ [10]) = q1 at *
          obtain ⟨q2, hq2⟩ : ∃ q2, bA (joinB (ss.take (k + 1))) = q2 := ⟨_, rfl⟩
          rw [hq2] at hadd2
          have HQ := hideIt hq2
          clear hq2
          go_upto_region 7 with (first
            | (go_at_call 9; refine (cS _).mono ?_; rintro e w2 ⟨v, rfl, hO, b2⟩; obtain ⟨a2, c2, rfl⟩ := slice_of_own hO))
          obtain ⟨ad', e', hac2, hadw2⟩ := fact w2 (chain hb b2)
          injection e' with e'
          subst e'
          clear hac hadw cS hO
          go_wp2
          go_roundg (ss.length - (k + 1))
          case measure => have := HG.out; omega
          case rel => exact ⟨k + 1, by omega, rfl, by go_num, by rw [HQ.out], chain hb b2, H10⟩
      · have hm1 : (1 : Int) < (m : Int) := by
          have h := hsp.2 hc
          omega
        have e : R = #[.string ⟨#[]⟩, .int .i64 2] := by
          rw [← HR.out, if_pos]
          exact List.any_eq_true.2 ⟨s, hmem, hc⟩
        subst e
        clear htk hs hle hle2 hc hmem HR hsp hmm
        go_wp2_with (first
          | (go_at_call 9; refine (cS _).mono ?_; rintro e w2 ⟨v, rfl, hO, b2⟩; obtain ⟨a2, c2, rfl⟩ := slice_of_own hO))
        go_ret2
        exact ⟨rfl, chain hb b2⟩
    · have e : k = ss.length := by omega
      subst e
      rw [List.take_length] at h10 ⊢
      have e : R = #[.string (bA (joinB ss)), .int .i64 0] := by
        rw [← HR.out, if_neg]
        rw [h10.out]; simp
      subst e
      generalize joinB ss = q at *
      clear HR
      go_wp2
      go_ret2
      exact ⟨rfl, hb⟩
end Go.Proofs.Ytpblnhphkikfaaa
