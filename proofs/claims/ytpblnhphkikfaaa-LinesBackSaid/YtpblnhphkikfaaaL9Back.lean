/-
  The law LinesBack: a text's lines, joined, are it; joined lines are a text's lines again; there is one more than there are bytes 10. Conditions: none.
-/
import Derived.Test.YtpblnhphkikfaaaD9Back
import Derived.Test.YtpblnhphkikfaaaU9Awake
import Derived.Test.YtpblnhphkikfaaaL9Joins
import Derived.ChangeMaps
namespace Go.Proofs.Ytpblnhphkikfaaa
set_option linter.unusedVariables false
set_option linter.unusedSimpArgs false
set_option maxRecDepth 10000
open Go.ChangeShapes Go.WideShapes Go.ChangeAt Go.RowKit

set_option maxHeartbeats 2000000 in
theorem lback_long (s : ByteArray) (A : Option Addr) (c : Nat) (ss : List ByteArray) (h : 3000 < s.size ∨ 100 < ss.length) (w : World) :
    Calls Try.prog 6 #[.string s, .slice A ss.length c] w (Tells (.bool true) w.heap.size w) := by
  have cA := awake_any w
  by_cases h1 : 3000 < s.size
  · have h1i : (3000 : Int) < (s.size : Int) := by omega
    clear h
    go_enter Try.func6, Try.ntmps6
    go_wp2_with (first | (go_at_call 25; refine cA.mono ?_; rintro e w1 ⟨rfl, b1⟩))
    go_ret
    exact ⟨rfl, b1⟩
  · have h2 : (100 : Int) < (ss.length : Int) := by omega
    have h1i : ¬ ((3000 : Int) < (s.size : Int)) := by omega
    clear h
    go_enter Try.func6, Try.ntmps6
    go_wp2_with (first | (go_at_call 25; refine cA.mono ?_; rintro e w1 ⟨rfl, b1⟩))
    go_ret
    exact ⟨rfl, b1⟩

set_option maxRecDepth 100000 in
set_option maxHeartbeats 800000 in
theorem lback_short (s : ByteArray) (hs : s.size ≤ 3000) (A : Option Addr) (c : Nat) (ss : List ByteArray) (hn : A = none → c = 0) (hl : ss.length ≤ 100) (w : World) (hr : StrRow w w.heap.size A ss) :
    Calls Try.prog 6 #[.string s, .slice A ss.length c] w (Tells (.bool true) w.heap.size w) := by
  obtain ⟨i0, hi, hz0, hz1, hz2'⟩ := info_parts info_str
  have cA := awake_any w
  have cL := fun u => all_any s (by omega) u
  unfold linesL at cL
  have hsi : ¬ ((3000 : Int) < (s.size : Int)) := by omega
  have hli : ¬ ((100 : Int) < (ss.length : Int)) := by omega
  have hlen := split_len s.data.toList
  have hcl := List.count_le_length (l := s.data.toList) (a := (10 : UInt8))
  rw [ba_size] at hcl
  have hjs := join_split s.data.toList
  have hno := split_no s.data.toList
  obtain ⟨l, hlx⟩ : ∃ l, splitL s.data.toList = l := ⟨_, rfl⟩
  simp only [LineRow, numb_len] at cL
  rw [hlx] at cL hlen hjs hno
  have HLEN := hideIt hlen
  have HJS := hideIt hjs
  have HNO := hideIt hno
  have hll : l.length ≤ 3001 := by omega
  clear hlx hlen hcl hjs hno
  go_enter Try.func6, Try.ntmps6
  go_upto_region 6 with (first
    | (go_at_call 25; refine cA.mono ?_; rintro e w1 ⟨rfl, b1⟩)
    | (go_at_call 10; refine (cL _).mono ?_; rintro e w2 ⟨v2, rfl, ⟨g2, cap, rfl, hg2, hs2, hc2⟩, b2⟩))
  have L2 := chain b1 b2
  clear cA cL b1 b2 hg2
  have hc2 : ∀ i x, l[i]? = some x → w2.cell? ⟨g2, i * 4 + 1, none⟩ = some (.string (bA x)) := fun i x hx => by
    exact (hc2 i (1 + i, x) (by rw [numb_at, hx]; rfl)).2.1
  go_wp2
  go_loopg [6, 8] l.length (fun gk v i wr => ∃ k : Nat, k ≤ l.length ∧ gk = l.length - k ∧ i = .int .i64 k ∧ wr.ownsRow w2.heap.size 9 1 v k (strCs (l.take k)) ∧ Below w2.heap.size w2 wr)
  case atStart => exact ⟨0, by omega, rfl, rfl, by exact World.ownsRow_nil _ _ _ _, Below.refl _ _⟩
  case round =>
    obtain ⟨k, hk, hgk, rfl, hown, hb⟩ := hrel
    have HG := hideIt hgk
    clear hgk
    by_cases hlt : k < l.length
    · have hlti : (k : Int) < (l.length : Int) := by omega
      obtain ⟨x, hx⟩ : ∃ x, l[k]? = some x := ⟨_, List.getElem?_eq_getElem hlt⟩
      have y1 := (hb.cell (p := ⟨g2, k * 4 + 1, none⟩) hs2).trans (hc2 k x hx)
      have y2 : g2 < wr.heap.size := Nat.lt_of_lt_of_le hs2 hb.size
      have htk : l.take (k + 1) = l.take k ++ [x] := by rw [List.take_add_one, hx]; rfl
      have HTK := hideIt htk
      have hml : k + 1 ≤ maxLen := by unfold maxLen; omega
      have hpl : (k + 1) * 16 ≤ 140737488355328 := by omega
      clear htk hx
      go_wp2_with (first
        | (at_builtin; refine wpList_append_own (w := wr.alloc (.cells #[.string (bA x)] 9)) rfl _ _ 22 rfl w2.heap.size 9 i0 (.string ⟨#[]⟩) 1 16 Try.underlying22 hi hz0 hz1 hz2' rfl (by decide) _ _ _ rfl (hown.alloc _) ⟨wr.heap.size, 0, none⟩ 1 1 [.string (bA x)] rfl rfl (one_new _ _ _) (by simp [Value.oneCell']) hml hpl (by have := hb.size; simp; omega) ?_; intro v' w1 hown' hgrow _))
      have q3 : Below w2.heap.size w2 w1 := (chainA hb _).grown hgrow (by have := hb.size; simp; omega) (fun k hk => (hown.lt k hk).1)
      have q2 : w1.ownsRow w2.heap.size 9 1 v' (k + 1) (strCs (l.take (k + 1))) := by
        rw [HTK.out]
        have e2 : strCs (l.take k ++ [x]) = strCs (l.take k) ++ [.string (bA x)] := by simp [strCs]
        rw [e2]
        exact hown'
      go_roundg (l.length - (k + 1))
      case measure => have := HG.out; omega
      case rel => exact ⟨k + 1, by omega, rfl, by go_num, q2, q3⟩
    · have e : k = l.length := by omega
      subst e
      rw [List.take_length] at hown
      have L3 := chain L2 hb
      have hown2 : wr.ownsRow w2.heap.size 9 1 u6 (l.map bA).length ((l.map bA).map Value.string) := by
        rw [List.length_map, List.map_map]
        exact hown
      obtain ⟨AO, cO, eO, hrO⟩ := own_texts hown2
      rw [List.length_map] at eO
      subst eO
      clear hown hown2 hc2 hs2
      go_wp2
      go_loopg [7, 9] s.size (fun gk m i wq => ∃ (k M : Nat), k ≤ s.size ∧ gk = s.size - k ∧ i = .int .i64 k ∧ m = .int .i64 M ∧ Hid (M = 1 + (s.data.toList.take k).count 10) ∧ M ≤ k + 1 ∧ wq = wr)
      case atStart => exact ⟨0, 1, by omega, rfl, rfl, rfl, rfl, by omega, rfl⟩
      case round =>
        clear HG
        obtain ⟨k, M, hk, hgk, rfl, rfl, hM, hMk, rfl⟩ := hrel
        have HG := hideIt hgk
        clear hgk
        by_cases hlt2 : k < s.size
        · have hlti : (k : Int) < (s.size : Int) := by omega
          have hbk := byte_at s k hlt2
          have htk : s.data.toList.take (k + 1) = s.data.toList.take k ++ [s[k]'hlt2] := by rw [List.take_add_one, hbk]; rfl
          have hMw : IntKind.i64.wrap ((M : Int) + 1) = ((M + 1 : Nat) : Int) := by rw [IntKind.wrap_i64]; omega
          obtain ⟨b, hbb⟩ : ∃ b, (s[k]'hlt2) = b := ⟨_, rfl⟩
          rw [hbb] at htk
          have hbn : (s[k]'hlt2).toNat = b.toNat := by rw [hbb]
          by_cases h10 : b = 10
          · subst h10
            have hbn2 : (s[k]'hlt2).toNat = 10 := hbn
            have hM2 : M + 1 = 1 + (s.data.toList.take (k + 1)).count 10 := by rw [htk, List.count_append, hM.out]; simp; omega
            have HM2 := hideIt hM2
            clear hbk htk hbb hbn hM2
            go_wp2
            go_roundg (s.size - (k + 1))
            case measure => have := HG.out; omega
            case rel => exact ⟨k + 1, M + 1, by omega, rfl, by go_num, by go_num, HM2, by omega, rfl⟩
          · have hb10 : ¬ (b.toNat = 10) := fun h => h10 (u8_eq b 10 h (by decide))
            have hM2 : M = 1 + (s.data.toList.take (k + 1)).count 10 := by rw [htk, List.count_append, List.count_cons_of_ne h10, hM.out]; simp
            have HM2 := hideIt hM2
            generalize b.toNat = n at *
            have hb10i : ¬ ((n : Int) = 10) := by omega
            have hb10b : ((n : Int) == 10) = false := beq_false_of_ne hb10i
            clear hbk htk hbb hM2 h10 hM
            go_wp2
            go_roundg (s.size - (k + 1))
            case measure => have := HG.out; omega
            case rel => exact ⟨k + 1, M, by omega, rfl, by go_num, rfl, HM2, by omega, rfl⟩
        · have e : k = s.size := by omega
          subst e
          have hMl : M = l.length := by
            have h1 := hM.out
            have h2 := HLEN.out
            rw [List.take_of_length_le (by rw [ba_size]; exact Nat.le_refl _)] at h1
            omega
          subst hMl
          have cJ := join_any AO cO (l.map bA) (by rw [List.length_map]; omega) (by rw [joinB_map, HJS.out, ba_size]; omega) wr hrO
          rw [List.length_map, any10_of l HNO.out, joinB_map, HJS.out, bA_of] at cJ
          simp only [Bool.false_eq_true, if_false] at cJ
          have hss : (s.toList == s.toList) = true := by simp
          clear hM hMk HLEN HJS HNO HG
          go_upto_region 21 with (first
            | (go_at_call 22; refine cJ.mono ?_; rintro e w5 ⟨rfl, b5⟩))
          have L5 := chain L3 b5
          have hr5 : StrRow w5 w5.heap.size A ss := (hr.call L5).more L5.size
          clear cJ hrO hb b5 hss L3
          go_loopg [12] ss.length (fun gk i wq => ∃ k : Nat, k ≤ ss.length ∧ gk = ss.length - k ∧ i = .int .i64 k ∧ wq = w5 ∧ Hid (∀ s ∈ ss.take k, s.size ≤ 200))
          case atStart => exact ⟨0, by omega, rfl, rfl, rfl, by simp [Hid]⟩
          case round =>
            obtain ⟨k, hk, hgk, rfl, rfl, hsz⟩ := hrel
            have HG := hideIt hgk
            clear hgk
            by_cases hlt3 : k < ss.length
            · obtain ⟨x, hx⟩ : ∃ x, ss[k]? = some x := ⟨_, List.getElem?_eq_getElem hlt3⟩
              have htk : ss.take (k + 1) = ss.take k ++ [x] := by
                rw [List.take_add_one, hx]; rfl
              obtain ⟨ad, rfl, hadl, hac⟩ := hr5 k x hx
              have hadw : (ad.add k).block < wr.heap.size := by rw [addr_block]; exact hadl
              have hlti : (k : Int) < (ss.length : Int) := by omega
              by_cases h200 : 200 < x.size
              · have h200i : (200 : Int) < (x.size : Int) := by omega
                clear htk hx
                go_wp2
                go_ret
                exact ⟨rfl, L5⟩
              · have h200i : ¬ ((200 : Int) < (x.size : Int)) := by omega
                have hn : ∀ y ∈ ss.take (k + 1), y.size ≤ 200 := fun y hy => by
                  rw [htk] at hy
                  rcases List.mem_append.1 hy with hy | hy
                  · exact hsz.out y hy
                  · obtain rfl := List.mem_singleton.1 hy; omega
                have HN := hideIt hn
                clear htk hx hn hsz
                go_wp2
                go_roundg (ss.length - (k + 1))
                case measure => have := HG.out; omega
                case rel => exact ⟨k + 1, by omega, rfl, by go_num, rfl, HN⟩
            · have e : k = ss.length := by omega
              subst e
              have hz2 := hsz.out
              rw [List.take_length] at hz2
              have hjl := joinB_len ss 200 hz2
              have hjl : (joinB ss).length ≤ 1000000 := by omega
              have cJ := fun u hu => join_any A c ss (by omega) hjl u hu
              clear hsz HG hz2
              cases hany : any10 ss
              · rw [hany] at cJ
                simp only [Bool.false_eq_true, if_false] at cJ
                by_cases h0 : ss.length = 0
                · have e0 : ss = [] := List.eq_nil_of_length_eq_zero h0
                  have ej : bA (joinB ss) = ⟨#[]⟩ := by rw [e0]; rfl
                  rw [ej] at cJ
                  clear ej hjl hany h0 hlt3 hk
                  subst e0
                  have cJ : ∀ u, StrRow u u.heap.size A [] → Calls Try.prog 22 #[.slice A 0 c] u (Tells (.tuple #[.string ⟨#[]⟩, .int .i64 0]) u.heap.size u) := cJ
                  go_wp2_with (first
                    | (go_at_call 22; (with_reducible refine (cJ _ hr5).mono ?_); rintro e w6 ⟨rfl, b6⟩))
                  go_ret
                  exact ⟨rfl, chain L5 b6⟩
                · have h0i : ¬ ((ss.length : Int) = 0) := by omega
                  have h0b : ((ss.length : Int) == 0) = false := beq_false_of_ne h0i
                  obtain ⟨m, hm⟩ : ∃ m, (ss.map fun s => s.data.toList) = m := ⟨_, rfl⟩
                  have hml : m.length = ss.length := by rw [← hm, List.length_map]
                  have hsp : splitL (bA (joinB ss)).data.toList = m := by
                    rw [bA_list]
                    show splitL (joinL (ss.map fun s => s.data.toList)) = m
                    rw [split_joined _ (by intro e; have := congrArg List.length e; rw [List.length_map] at this; exact h0 this) (any10_no ss hany), hm]
                  have cB := fun u => all_at (bA (joinB ss)) (by rw [bA_size]; exact hjl) m hsp u
                  rw [hml] at cB
                  generalize bA (joinB ss) = q at *
                  have HM := hideIt hm
                  clear hjl hsp hm hany
                  go_upto_region 29 with (first
                    | (go_at_call 22; refine (cJ _ hr5).mono ?_; rintro e w6 ⟨rfl, b6⟩)
                    | (go_at_call 10; refine (cB _).mono ?_; rintro e w7 ⟨g7, c7, rfl, R7, b7⟩))
                  have L7 := chain (chain L5 b6) b7
                  have hr7 : StrRow w7 w7.heap.size A ss := (hr.call L7).more L7.size
                  clear cJ cB hr5 b6 b7
                  go_wp2
                  go_loopg [16] ss.length (fun gk i wq => ∃ k : Nat, k ≤ ss.length ∧ gk = ss.length - k ∧ i = .int .i64 k ∧ Below w7.heap.size w7 wq)
                  case atStart => exact ⟨0, by omega, rfl, rfl, Below.refl _ _⟩
                  case round =>
                    obtain ⟨k, hk, hgk, rfl, hb⟩ := hrel
                    have HG := hideIt hgk
                    clear hgk
                    by_cases hlt4 : k < ss.length
                    · obtain ⟨x, hx⟩ : ∃ x, ss[k]? = some x := ⟨_, List.getElem?_eq_getElem hlt4⟩
                      have hxm : m[k]? = some x.data.toList := by rw [← HM.out, List.getElem?_map, hx]; rfl
                      obtain ⟨ad, rfl, hadl, hac⟩ := hr7.call hb k x hx
                      have R8 := R7.call hb
                      obtain ⟨y0, y1, y2, y3⟩ := R8.2 k _ hxm
                      rw [bA_of] at y1
                      have hg7 := R8.1
                      have hadw : (ad.add k).block < wr.heap.size := by rw [addr_block]; exact Nat.lt_of_lt_of_le hadl hb.size
                      have hlti : (k : Int) < (ss.length : Int) := by omega
                      clear hx hxm y0 y2 y3 R8
                      go_upto_region 34 with fail
                      go_quiet (fail)
                      go_wp2
                      go_roundg (ss.length - (k + 1))
                      case measure => have := HG.out; omega
                      case rel => exact ⟨k + 1, by omega, rfl, by go_num, below_drewN hb _⟩
                    · have e : k = ss.length := by omega
                      subst e
                      go_wp2
                      go_ret
                      exact ⟨rfl, chain L7 hb⟩
              · rw [hany] at cJ
                simp only [if_true] at cJ
                clear hjl hany
                go_wp2_with (first
                  | (go_at_call 22; refine (cJ _ hr5).mono ?_; rintro e w6 ⟨rfl, b6⟩))
                go_ret
                exact ⟨rfl, chain L5 b6⟩

theorem linesBack_core (H : Type) (enc : TypeId × Value → H) (W : World) (base : Nat) (args : Array Value) (ds gs : List (DataW H)) (before : List MemPlace)
    (hval : ∀ (j : Nat) t v, Try.f6.params[j]? = some t → args[j]? = some v → Value.okWide Try.prog W .any base t v)
    (hW : DataW.Whole enc Try.prog Try.f6.params.toList Rows.linesBackSpec.vars false W args.toList ds gs before) :
    gs = [] ∧ ds.length = 2 ∧ Calls Try.prog 6 args W (Tells (.bool true) W.heap.size W) := by
  obtain ⟨p, q, hA, hV, -, -, -⟩ := hW
  obtain ⟨rfl, rfl⟩ := trodVars_none hV
  have hA : DataW.TrodAll enc Try.prog W 0 (fun _ => true) true Try.f6.params.toList args.toList ds p := hA
  rw [Try.params6] at hA hval
  obtain ⟨v0, vs0, d0, ds0, p0, ps0, e0, rfl, -, h0, hA⟩ := trodAll_cons hA
  obtain ⟨v1, vs1, d1, ds1, p1, ps1, rfl, rfl, -, h1, hA⟩ := trodAll_cons hA
  obtain ⟨rfl, rfl, rfl⟩ := trodAll_nil hA
  obtain rfl : args = #[v0, v1] := Array.ext' e0
  obtain ⟨s, rfl, rfl, rfl, hs⟩ := Go.ChangeMaps.open_string Try.underlying9 (hval 0 9 v0 rfl rfl) h0
  obtain ⟨A, c, ss, rfl, hm, hn, hr⟩ := open_texts (hval 1 22 v1 rfl rfl) h1
  refine ⟨rfl, rfl, ?_⟩
  by_cases h : 3000 < s.size ∨ 100 < ss.length
  · exact lback_long s A c ss h W
  · exact lback_short s (by omega) A c ss hn (by omega) W hr

set_option maxRecDepth 100000 in
theorem linesBack_lifted (os : Os) (started : os.Started) (H : Type) (enc : TypeId × Value → H) :
    ReturnsInHanded {} Try.checked os 6 .any (Rows.linesBackSpec.pre6 enc Try.prog Try.f6 Rows.linesBackRow.domain false) (Rows.linesBackSpec.post enc Try.prog Try.f6 false true false false) := by
  refine returnsInHanded_of_change (C := Try.checked) own_knob started (by kernel_rfl) Try.func6
    (ChangeSpec.witness6 (enc := enc) (C := Try.checked) false ⟨#[], #[.string ⟨#[]⟩, .slice none 0 0], []⟩ 8 (by kernel_rfl) (by kernel_rfl) (by kernel_rfl) (by kernel_rfl)) ?_
  intro W base args ds gs before hval hW _ _
  obtain ⟨hg, hlen, hc⟩ := linesBack_core H enc W base args ds gs before hval hW
  subst hg
  have hr : (Try.f6.params.toList.all fun t => Try.prog.readableRec t && decide (t < Try.prog.types.size)) = true := by kernel_rfl
  have hread : ∀ t ∈ Try.f6.params.toList, Try.prog.readableRec t = true ∧ t < Try.prog.types.size := fun t ht => by
    have h := List.all_eq_true.1 hr t ht
    rw [Bool.and_eq_true, decide_eq_true_eq] at h
    exact h
  refine hc.mono fun e W' ⟨he, hb⟩ => ?_
  subst he
  match ds, hlen with
  | [d0, d1], _ => exact ⟨_, rfl, law_post laid_out Try.underlying4 rfl hread rfl hW rfl rfl rfl hb⟩

theorem linesBack_holds : Rows.LinesBackSaid :=
  OpenClaim.holds_of_wide 6 Try.f6 rfl rfl rfl rfl rfl rfl rfl ⟨rfl, rfl, rfl, rfl, rfl⟩ rfl rfl rfl rfl rfl (by kernel_rfl) Try.func6 (by kernel_rfl)
    (of_decide_eq_true (by kernel_rfl)) (by unfold Func.isWrapper; first | (rw [if_pos (by decide +kernel)]; kernel_rfl) | (rw [if_neg (by decide +kernel)]; exact ⟨rfl, rfl⟩))
    (fun os started H enc _ => linesBack_lifted os started H enc)

end Go.Proofs.Ytpblnhphkikfaaa
