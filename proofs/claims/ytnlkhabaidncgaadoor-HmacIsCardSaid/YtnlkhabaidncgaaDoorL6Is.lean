/-
  The law HmacIs: a mac is its own text's alone: with any byte of it changed, one less, one more, it isn't.
  Conditions: block's table of constants holds what the program's text lays (tied by the card).
-/
import Derived.Test.YtnlkhabaidncgaaDoorU6Awake
import Derived.Test.YtnlkhabaidncgaaDoorW4Laid
namespace Go.Proofs.YtnlkhabaidncgaaDoor
set_option linter.unusedVariables false
set_option linter.unusedSimpArgs false
open Go.ChangeShapes Go.WideShapes Go.ChangeAt Go.RowKit

theorem byte_of {x : Int} (h : (Lit.int .u8 x).wf = true) : 0 ≤ x ∧ x < 256 := by
  simp [Lit.wf, IntKind.min, IntKind.max, IntKind.signed, IntKind.bits] at h
  omega
theorem xor_same (x b : Int) (hx : 0 ≤ x ∧ x < 256) (hb : 0 ≤ b ∧ b < 256) : xorI x b = x ↔ b = 0 := by
  unfold xorI
  constructor
  · intro h
    have h1 : x.toNat ^^^ b.toNat = x.toNat := by omega
    have h2 : x.toNat ^^^ (x.toNat ^^^ b.toNat) = x.toNat ^^^ x.toNat := by rw [h1]
    rw [← Nat.xor_assoc, Nat.xor_self, Nat.zero_xor] at h2
    omega
  · rintro rfl
    simp; omega
theorem set_same (l : List Int) (k : Nat) (v : Int) (hk : k < l.length) : l.set k v = l ↔ v = l.getD k 0 := by
  have e1 : l.getD k 0 = l[k] := by rw [List.getD_eq_getElem?_getD, List.getElem?_eq_getElem hk]; rfl
  constructor
  · intro h
    have h2 : (l.set k v)[k]'(by simpa using hk) = l[k] := by simp only [h]
    rw [List.getElem_set_self] at h2
    rw [e1, h2]
  · intro h
    rw [h, e1, List.set_getElem_self]
theorem changed (R : ByteArray) (k : Nat) (b : Int) (hk : k < R.size) (hb : 0 ≤ b ∧ b < 256) : strOfNums ((nums R).set k (xorI ((nums R).getD k 0) b)) = R ↔ b = 0 := by
  have hkl : k < (nums R).length := by rw [nums_len]; exact hk
  have hx := getD_bd (nums R) (nums_bd R) k
  rw [← xor_same _ b hx hb, ← set_same (nums R) k _ hkl]
  have hall : ∀ x ∈ (nums R).set k (xorI ((nums R).getD k 0) b), 0 ≤ x ∧ x < 256 := fun x h => by
    rcases List.mem_or_eq_of_mem_set h with h | h
    · exact nums_bd R x h
    · rw [h]; exact xorI_bd _ _ hx hb
  constructor
  · intro h
    have h2 := congrArg nums h
    rwa [nums_str _ hall] at h2
  · intro h
    rw [h, str_nums]

set_option maxHeartbeats 1000000 in
theorem is_long (key text : ByteArray) (a b : Int) (h : 1000 < key.size ∨ 1000 < text.size) (hk : key.size ≤ 9223372036854775807) (ht : text.size ≤ 9223372036854775807) (w : World) (hT : Tab w) :
    Calls Tryd.prog 9 #[.string key, .string text, .int .u8 a, .int .u8 b] w (Tells (.bool true) w.heap.size w) := by
  have cA := awake6_any w hT
  by_cases h1 : (1000 : Int) < (key.size : Int)
  · go_enter Tryd.func9, Tryd.ntmps9
    go_wp2_with (first | (go_at_call 24; refine cA.mono ?_; rintro e w1 ⟨rfl, b1⟩))
    go_ret
    exact ⟨rfl, b1⟩
  · have h2 : (1000 : Int) < (text.size : Int) := by omega
    go_enter Tryd.func9, Tryd.ntmps9
    go_wp2_with (first | (go_at_call 24; refine cA.mono ?_; rintro e w1 ⟨rfl, b1⟩))
    go_ret
    exact ⟨rfl, b1⟩

set_option maxRecDepth 100000 in
set_option maxHeartbeats 4000000 in
theorem is_short (key text : ByteArray) (m : Nat) (b : Int) (hm : m < 256) (hb : 0 ≤ b ∧ b < 256) (hk : key.size ≤ 1000) (ht : text.size ≤ 1000) (w : World) (hT : Tab w) :
    Calls Tryd.prog 9 #[.string key, .string text, .int .u8 m, .int .u8 b] w (Tells (.bool true) w.heap.size w) := by
  have cA := awake6_any w hT
  have h1 : ¬ ((1000 : Int) < (key.size : Int)) := by omega
  have h2 : ¬ ((1000 : Int) < (text.size : Int)) := by omega
  have cS := fun u hu => hsum_any key text (by omega) (by omega) u hu
  have cI := fun mac u hu => his_any key text mac (by omega) (by omega) u hu
  have zR := macB_size key text.data.toList
  simp only [same_str] at cI
  generalize macB key text.data.toList = R at *
  have cR := fun u hu => cI R u hu
  rw [decide_eq_true rfl] at cR
  have ne1 : R.extract 1 32 ≠ R := fun e => by have := congrArg ByteArray.size e; rw [ByteArray.size_extract] at this; omega
  have cN := fun u hu => cI (R.extract 1 32) u hu
  rw [decide_eq_false ne1] at cN
  obtain ⟨X, hX⟩ : ∃ X, R ++ ⟨#[0]⟩ = X := ⟨_, rfl⟩
  have zX : X.size = 33 := by rw [← hX, ByteArray.size_append, zR]; rfl
  have hcX : ∀ u : World, (Op.stringOp .add R ⟨#[0]⟩).run Tryd.prog u = .ok (.string X) u := fun u => by rw [← hX]; exact run_string_add_sum u _ _ (by rw [zR]; decide)
  have ne2 : X ≠ R := fun e => by rw [e] at zX; omega
  have cX := fun u hu => cI X u hu
  rw [decide_eq_false ne2] at cX
  have ne3 : (⟨#[]⟩ : ByteArray) ≠ R := fun e => by rw [← e] at zR; exact absurd zR (by decide)
  have cE := fun u hu => cI ⟨#[]⟩ u hu
  rw [decide_eq_false ne3] at cE
  obtain ⟨k, hkk⟩ : ∃ k, m % 32 = k := ⟨_, rfl⟩
  have hmod : (m : Int).tmod 32 = (k : Int) := by rw [Int.tmod_eq_emod_of_nonneg (by omega)]; omega
  have k32 : k < 32 := by omega
  have ki : (k : Int) < 32 := by omega
  have hch := changed R k b (by omega) hb
  have hcv := fun u => run_bytes_of_string (P := Tryd.prog) u 9 53 5 R Tryd.underlying9 Tryd.underlying53 Tryd.underlying5
  have hrow := fun u => row_of_bytes u 5 R
  simp only [zR] at hrow hcv
  have hxb := bits_xorI ((nums R).getD k 0) b (getD_bd _ (nums_bd R) k) hb
  have hl := nums_len R
  rw [zR] at hl
  obtain ⟨Z, hZ⟩ : ∃ Z, strOfNums ((nums R).set k (xorI ((nums R).getD k 0) b)) = Z := ⟨_, rfl⟩
  rw [hZ] at hch
  have cZ := fun u hu => cI Z u hu
  simp only [hch] at cZ
  have HZ := hideIt hZ
  clear ne1 ne2 ne3 hX cI hkk hch hZ hk ht
  go_enter Tryd.func9, Tryd.ntmps9
  go_upto_region 8 with (first
    | (go_at_call 24; refine cA.mono ?_; rintro e w1 ⟨rfl, b1⟩; have t1 := hT.call b1)
    | (go_at_call 11; refine (cS _ t1).mono ?_; rintro e w2 ⟨rfl, b2⟩; have t2 := t1.call b2)
    | (go_at_call_of 18 (Value.string R); refine (cR _ t2).mono ?_; rintro e w3 ⟨rfl, b3⟩; have t3 := t2.call b3)
    | (go_at_call_of 18 (Value.string (R.extract 1 32)); refine (cN _ t3).mono ?_; rintro e w4 ⟨rfl, b4⟩; have t4 := t3.call b4)
    | (go_at_call_of 18 (Value.string X); refine (cX _ t4).mono ?_; rintro e w5 ⟨rfl, b5⟩; have t5 := t4.call b5)
    | (go_at_call_of 18 (Value.string ⟨#[]⟩); refine (cE _ t5).mono ?_; rintro e w6 ⟨rfl, b6⟩; have t6 := t5.call b6))
  have L6 : Below w.heap.size w w6 := chain (chain (chain (chain (chain b1 b2) b3) b4) b5) b6
  clear b1 b2 b3 b4 b5 b6 t1 t2 t3 t4 t5 cA cS cR cN cX cE hcX
  go_upto_region 9 with fail
  have R1 := hrow w6
  have L1 : Below w.heap.size w (w6.drew.alloc (.cells (bytesRow R (grownCap w6 32 0 5)) 5 ((bytesRow R (grownCap w6 32 0 5)).size, (bytesRow R (grownCap w6 32 0 5)).size + 1))) := chainA (L6.drew) _
  have T1 : Tab (w6.drew.alloc (.cells (bytesRow R (grownCap w6 32 0 5)) 5 ((bytesRow R (grownCap w6 32 0 5)).size, (bytesRow R (grownCap w6 32 0 5)).size + 1))) := Tab.past (w := w6.drew) t6 _
  have hg1 := L6.size
  have hg0 := t6.1
  change Code.wp _ _ _ _ (w6.drew.alloc (.cells (bytesRow R (grownCap w6 32 0 5)) 5 ((bytesRow R (grownCap w6 32 0 5)).size, (bytesRow R (grownCap w6 32 0 5)).size + 1)))
  generalize w6.drew.alloc _ = W at *
  generalize grownCap w6 32 0 5 = cap at *
  generalize w6.heap.size = g at *
  clear hcv hrow L6 t6
  generalize nums R = l at *
  have hin := R1.inside (by omega)
  obtain ⟨hr, hf⟩ := R1 k (by omega)
  have R2 := R1.set_ k (by omega) (xorI (l.getD k 0) b)
  have L2 := L1.setCell (p := ⟨g, k, none⟩) hg1 (.int .u8 (xorI (l.getD k 0) b))
  have T2 := T1.set (by omega) k (.int .u8 (xorI (l.getD k 0) b))
  have hcb := R2.conv (P := Tryd.prog) Tryd.underlying53 Tryd.underlying5 Tryd.underlying9 32 cap (by rw [List.length_set]; exact hl)
  rw [HZ.out] at hcb
  generalize l.getD k 0 = x at *
  clear R1 R2 L1 T1
  go_upto_region 10 with fail
  clear hf hr hxb
  generalize xorI x b = y at *
  clear HZ
  generalize W.setCell _ _ = W2 at *
  by_cases hb0 : b = 0
  · subst hb0
    have cZ1 := cZ
    simp only [decide_true] at cZ1
    clear cZ
    go_wp2_with (first | (go_at_call 18; refine (cZ1 _ T2).mono ?_; rintro e w7 ⟨rfl, b7⟩))
    go_ret
    exact ⟨rfl, chain L2 b7⟩
  · have cZ1 := fun u hu => cZ u hu
    simp only [hb0, decide_false] at cZ1
    have e1 : (b == 0) = false := by simpa using hb0
    clear cZ
    go_wp2_with (first | (go_at_call 18; refine (cZ1 _ T2).mono ?_; rintro e w7 ⟨rfl, b7⟩))
    go_ret
    exact ⟨rfl, chain L2 b7⟩

theorem hmacIs_core (H : Type) (enc : TypeId × Value → H) (W : World) (base : Nat) (args : Array Value) (ds gs : List (DataW H)) (before : List MemPlace)
    (hval : ∀ (j : Nat) t v, Tryd.f9.params[j]? = some t → args[j]? = some v → Value.okWide Tryd.prog W .any base t v)
    (hW : DataW.Whole enc Tryd.prog Tryd.f9.params.toList Rows.hmacIsSpec.vars false W args.toList ds gs before) (hT : Tab W) :
    gs = [] ∧ ds.length = 4 ∧ Calls Tryd.prog 9 args W (Tells (.bool true) W.heap.size W) := by
  obtain ⟨p, q, hA, hV, -, -, -⟩ := hW
  obtain ⟨rfl, rfl⟩ := trodVars_none hV
  have hA : DataW.TrodAll enc Tryd.prog W 0 (fun _ => true) true Tryd.f9.params.toList args.toList ds p := hA
  rw [Tryd.params9] at hA hval
  obtain ⟨v0, vs0, d0, ds0, p0, ps0, e0, rfl, -, h0, hA⟩ := trodAll_cons hA
  obtain ⟨v1, vs1, d1, ds1, p1, ps1, rfl, rfl, -, h1, hA⟩ := trodAll_cons hA
  obtain ⟨v2, vs2, d2, ds2, p2, ps2, rfl, rfl, -, h2, hA⟩ := trodAll_cons hA
  obtain ⟨v3, vs3, d3, ds3, p3, ps3, rfl, rfl, -, h3, hA⟩ := trodAll_cons hA
  obtain ⟨rfl, rfl, rfl⟩ := trodAll_nil hA
  obtain rfl : args = #[v0, v1, v2, v3] := Array.ext' e0
  obtain ⟨key, rfl, rfl, rfl, hk⟩ := Go.ChangeMaps.open_string Tryd.underlying9 (hval 0 9 v0 rfl rfl) h0
  obtain ⟨text, rfl, rfl, rfl, ht⟩ := Go.ChangeMaps.open_string Tryd.underlying9 (hval 1 9 v1 rfl rfl) h1
  obtain ⟨a, rfl, -, -, ba⟩ := open_int Tryd.underlying5 (hval 2 5 v2 rfl rfl) h2
  obtain ⟨b, rfl, -, -, bb⟩ := open_int Tryd.underlying5 (hval 3 5 v3 rfl rfl) h3
  have ha := byte_of (x := a) (by simpa using ba)
  have hb := byte_of (x := b) (by simpa using bb)
  obtain ⟨m, rfl⟩ := Int.eq_ofNat_of_zero_le ha.1
  refine ⟨rfl, rfl, ?_⟩
  by_cases h : 1000 < key.size ∨ 1000 < text.size
  · exact is_long key text _ b h hk ht W hT
  · exact is_short key text m b (by omega) hb (by omega) (by omega) W hT

set_option maxRecDepth 100000 in
theorem hmacIs_lifted (os : Os) (started : os.Started) (H : Type) (enc : TypeId × Value → H) :
    ReturnsInHanded {} Tryd.checked os 9 .any (fun w args => (Rows.hmacIsSpec.pre enc Tryd.prog Tryd.f9 [] false w args ∧ laidMetH Tryd.prog laidK w) ∧ sizedMet enc Tryd.prog Tryd.f9 (OpenSpec.ofChange Rows.hmacIsSpec) false w args)
      (Rows.hmacIsSpec.post enc Tryd.prog Tryd.f9 false true false false) := by
  refine returnsInHanded_of_change_and (C := Tryd.checked) (X := fun w _ => laidMetH Tryd.prog laidK w) (fun _ _ _ hh h => h.of_heap hh) own_knob started (by kernel_rfl) Tryd.func9
    (ChangeSpec.witness_shaped (enc := enc) (C := Tryd.checked) (os := os) (X := fun w _ => laidMetH Tryd.prog laidK w) false (World.doorLaid Tryd.prog 14 os) #[.string ⟨#[]⟩, .string ⟨#[]⟩, .int .u8 0, .int .u8 0] 8 rfl (World.shaped_of_RefB (by kernel_rfl) (by kernel_rfl)) (by kernel_rfl) (by kernel_rfl) (by kernel_rfl) (door_met os _)) ?_
  intro W base args ds gs before hval0 hW _ hwt hL _
  have hval : ∀ (j : Nat) t v, Tryd.f9.params[j]? = some t → args[j]? = some v → Value.okWide Tryd.prog W .any base t v := hval0
  obtain ⟨hg, hlen, hc⟩ := hmacIs_core H enc W base args ds gs before hval hW (tab_of_laid hL)
  subst hg
  have hr : (Tryd.f9.params.toList.all fun t => Tryd.prog.readableRec t && decide (t < Tryd.prog.types.size)) = true := by kernel_rfl
  have hread : ∀ t ∈ Tryd.f9.params.toList, Tryd.prog.readableRec t = true ∧ t < Tryd.prog.types.size := fun t ht => by
    have h := List.all_eq_true.1 hr t ht
    rw [Bool.and_eq_true, decide_eq_true_eq] at h
    exact h
  refine hc.mono fun e W' ⟨he, hb⟩ => ?_
  subst he
  match ds, hlen with
  | [d0, d1, d2, d3], _ => exact ⟨_, rfl, law_post laid_out Tryd.underlying4 rfl hread rfl hW rfl rfl rfl hb⟩

theorem hmacIs_holds : Rows.HmacIsSaid :=
  OpenClaim.holds_of_wide 9 Tryd.f9 rfl rfl rfl rfl rfl rfl rfl ⟨rfl, rfl, rfl, rfl, rfl⟩ rfl rfl rfl rfl rfl (by kernel_rfl) Tryd.func9 (by kernel_rfl)
    (of_decide_eq_true (by kernel_rfl)) (by unfold Func.isWrapper; first | (rw [if_pos (by decide +kernel)]; kernel_rfl) | (rw [if_neg (by decide +kernel)]; exact ⟨rfl, rfl⟩))
    (fun os started H enc _ => hmacIs_lifted os started H enc)

theorem hmacIs_card : Rows.HmacIsCardSaid :=
  Claim7.holds_tied_plain_at .later [] [.data] true _ false
    hmacIs_holds (fun _ h => by cases h) (by kernel_rfl) (fun _ h => by cases h) hmacIs_row_tie rfl ⟨rfl, rfl⟩ (by kernel_rfl) rfl
    (fun f fn hf hfn => by
      obtain rfl : f = 9 := Option.some.inj ((show Tryd.prog.funcNamed "paymaster/paymasterlaw06.HmacIs" = some 9 by kernel_rfl).symm.trans hf) |>.symm
      obtain rfl : fn = Tryd.f9 := (Option.some.inj (Tryd.func9.symm.trans hfn)).symm
      exact ⟨by kernel_rfl, fun j t ht => by
        have hm : t ∈ Tryd.f9.params.toList := by simpa using Array.mem_of_getElem? ht
        have hall : (Tryd.f9.params.toList.all fun u => !Tryd.prog.wantsStandIn u) = true := by kernel_rfl
        exact (show Tryd.prog.wantsStandIn t = false by simpa using List.all_eq_true.1 hall t hm)⟩)
    (by kernel_rfl)

end Go.Proofs.YtnlkhabaidncgaaDoor
