/-
  Package lines' Text, walked: runes as UTF-8.
-/
import Derived.Test.YtpblnhphkikfaaaU9Line
import Derived.Test.YtpblnhphkikfaaaW9Str
import Derived.Laws.Cover4
namespace Go.Proofs.Ytpblnhphkikfaaa
set_option linter.unusedVariables false
set_option linter.unusedSimpArgs false
set_option maxRecDepth 10000
open Go.RowKit Go.Lib

/-- A rune's bytes. -/
def encL (c : Nat) : List UInt8 :=
  if c < 128 then [UInt8.ofNat c]
  else if c < 2048 then [UInt8.ofNat (192 + c / 64), UInt8.ofNat (128 + c % 64)]
  else if c < 65536 then [UInt8.ofNat (224 + c / 4096), UInt8.ofNat (128 + c / 64 % 64), UInt8.ofNat (128 + c % 64)]
  else [UInt8.ofNat (240 + c / 262144), UInt8.ofNat (128 + c / 4096 % 64), UInt8.ofNat (128 + c / 64 % 64), UInt8.ofNat (128 + c % 64)]
def okAll (l : List Int) : Bool := l.all okR
def textZ (l : List Int) : List UInt8 := l.flatMap fun r => encL r.toNat
theorem okR_iff (r : Int) : okR r = true ↔ (0 ≤ r ∧ r < 55296) ∨ (57343 < r ∧ r ≤ 1114111) := by simp [okR]
theorem encode_ok (r : Int) (h : okR r = true) : (Utf8.encode r).data.toList = encL r.toNat := by
  have hv : Utf8.valid r = true := by
    have := (okR_iff r).1 h
    unfold Utf8.valid
    simp
    omega
  unfold Utf8.encode encL
  simp only [hv, if_true]
  generalize r.toNat = c
  by_cases h1 : c < 128
  · simp [h1]
  · by_cases h2 : c < 2048
    · simp [h1, h2]
    · by_cases h3 : c < 65536
      · simp [h1, h2, h3]
      · simp [h1, h2, h3]
theorem runesBytes_ok (l : List Int) (h : okAll l = true) : runesBytes l = bA (textZ l) := by
  have key : ∀ (l : List Int) (s : ByteArray), okAll l = true → (l.foldl (fun r n => r ++ Utf8.encode n) s).data.toList = s.data.toList ++ textZ l := by
    intro l
    induction l with
    | nil => intro s _; simp [textZ]
    | cons n r ih =>
      intro s hl
      simp only [okAll, List.all_cons, Bool.and_eq_true] at hl
      rw [List.foldl_cons, ih _ hl.2, ByteArray.data_append, Array.toList_append, encode_ok n hl.1]
      simp [textZ]
  apply ba_ext
  rw [bA_list]
  unfold runesBytes
  rw [key l _ h]
  rfl
/-- A row of runes below a height. -/
def RuneRow (w : World) (B : Nat) (A : Option Addr) (l : List Int) : Prop := ∀ i r, l[i]? = some r → ∃ ad, A = some ad ∧ ad.block < B ∧ w.cell? (ad.add i) = some (.int .i32 r)
theorem RuneRow.call {w w' : World} {B : Nat} {A : Option Addr} {l : List Int} (h : RuneRow w B A l) (hb : Below B w w') : RuneRow w' B A l := fun i s hs => by
  obtain ⟨ad, e, hl, hc⟩ := h i s hs
  exact ⟨ad, e, hl, (hb.cell (by rw [addr_block]; exact hl)).trans hc⟩
theorem RuneRow.more {w : World} {B B' : Nat} {A : Option Addr} {l : List Int} (h : RuneRow w B A l) (hb : B ≤ B') : RuneRow w B' A l := fun i s hs => by
  obtain ⟨ad, e, hl, hc⟩ := h i s hs
  exact ⟨ad, e, Nat.lt_of_lt_of_le hl hb, hc⟩
theorem conv_runes (A : Option Addr) (l : List Int) (c : Nat) (w : World) (hr : RuneRow w w.heap.size A l) : (convert 39 9 (.slice A l.length c)).run Try.prog w = .ok (.string (runesBytes l)) w := by
  rcases A with _ | ad
  · have e : l = [] := by
      cases l with
      | nil => rfl
      | cons x r =>
        obtain ⟨ad, e, -⟩ := hr 0 x rfl
        cases e
    subst e
    rw [run_convert_runes_nil w _ _ _ _ _ Try.underlying39 Try.underlying21 Try.underlying9]
    rfl
  · rw [run_convert_runes w _ _ _ ad l.length c l (Nat.le_refl _) Try.underlying39 Try.underlying21 Try.underlying9 (fun j hj => ?_), List.take_length]
    obtain ⟨ad', e, -, h⟩ := hr j l[j] (List.getElem?_eq_getElem hj)
    injection e with e
    subst e
    rw [h, List.getD_eq_getElem?_getD, List.getElem?_eq_getElem hj]
    rfl

set_option maxRecDepth 100000 in
set_option maxHeartbeats 2000000 in
theorem text_any (A : Option Addr) (c : Nat) (l : List Int) (hm : l.length ≤ 9223372036854775807) (w : World) (hr : RuneRow w w.heap.size A l) :
    Calls Try.prog 19 #[.slice A l.length c] w (Plain (.tuple (if okAll l then #[.string (bA (textZ l)), .int .i64 0] else #[.string ⟨#[]⟩, .int .i64 90])) w) := by
  obtain ⟨R, hR⟩ : ∃ R, (if okAll l then (#[.string (bA (textZ l)), .int .i64 0] : Array Value) else #[.string ⟨#[]⟩, .int .i64 90]) = R := ⟨_, rfl⟩
  rw [hR]
  have HR := hideIt hR
  clear hR
  go_enter Try.func19, Try.ntmps19
  go_wp2
  go_loopg [5, 8] l.length (fun gk r i wr => ∃ k : Nat, k ≤ l.length ∧ gk = l.length - k ∧ i = .int .i64 k ∧ wr = w ∧ Hid (okAll (l.take k) = true))
  case atStart => exact ⟨0, by omega, rfl, rfl, rfl, rfl⟩
  case round =>
    obtain ⟨k, hk, hgk, rfl, rfl, hok⟩ := hrel
    have HG := hideIt hgk
    clear hgk
    by_cases hlt : k < l.length
    · obtain ⟨s, hs⟩ : ∃ s, l[k]? = some s := ⟨_, List.getElem?_eq_getElem hlt⟩
      have htk : l.take (k + 1) = l.take k ++ [s] := by
        rw [List.take_add_one, hs]; rfl
      have hlti : (k : Int) < (l.length : Int) := by omega
      obtain ⟨ad, rfl, hadl, hac⟩ := hr k s hs
      have hadw : (ad.add k).block < wr.heap.size := by rw [addr_block]; exact hadl
      have cV := fun u => validRune_any s u
      have hmem : s ∈ l := List.mem_of_getElem? hs
      cases hc : okR s
      · rw [hc] at cV
        have e : R = #[.string ⟨#[]⟩, .int .i64 90] := by
          rw [← HR.out, if_neg]
          intro h
          have := List.all_eq_true.1 h s hmem
          rw [hc] at this
          cases this
        subst e
        clear htk hs hc hmem HR
        go_wp2_with (first
          | (go_at_call 33; refine (cV _).mono ?_; rintro e w' ⟨rfl, rfl⟩))
        go_ret2
        exact ⟨rfl, rfl⟩
      · rw [hc] at cV
        have h10' : okAll (l.take (k + 1)) = true := by
          rw [htk]
          have := hok.out
          unfold okAll at this ⊢
          rw [List.all_append, this]
          simp [hc]
        have H10 := hideIt h10'
        clear h10' hok htk hs hc hmem
        go_wp2_with (first
          | (go_at_call 33; refine (cV _).mono ?_; rintro e w' ⟨rfl, rfl⟩))
        go_roundg (l.length - (k + 1))
        case measure => have := HG.out; omega
        case rel => exact ⟨k + 1, by omega, rfl, by go_num, rfl, H10⟩
    · have e : k = l.length := by omega
      subst e
      rw [List.take_length] at hok
      have e : R = #[.string (bA (textZ l)), .int .i64 0] := by
        rw [← HR.out, if_pos hok.out]
      subst e
      have hcv := fun (u : World) (hu : RuneRow u u.heap.size A l) => conv_runes A l c u hu
      rw [runesBytes_ok l hok.out] at hcv
      have hcv := hcv wr hr
      generalize bA (textZ l) = q at *
      clear HR
      go_wp2
      go_ret2
      exact ⟨rfl, rfl⟩
end Go.Proofs.Ytpblnhphkikfaaa
