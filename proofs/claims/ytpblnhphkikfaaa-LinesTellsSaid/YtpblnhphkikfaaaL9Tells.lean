/-
  The law LinesTells: the lines of any text, each with its number, its kind and what is wrong, and the first with which something is, are what the chapter says; who stops, stops. Conditions: none.
-/
import Derived.Test.YtpblnhphkikfaaaR9Join
import Derived.Test.YtpblnhphkikfaaaE9Same
import Derived.Test.YtpblnhphkikfaaaW0Lift
import Derived.ChangeMaps
import Derived.Test.YtpblnhphkikfaaaW5Round
namespace Go.Proofs.Ytpblnhphkikfaaa
set_option linter.unusedVariables false
set_option linter.unusedSimpArgs false
set_option maxRecDepth 10000
open Go.ChangeShapes Go.WideShapes Go.ChangeAt Go.RowKit Go.Shelf
attribute [local go_sem] Oper.semAt_some

set_option maxHeartbeats 2000000 in
theorem ltells_long (s : ByteArray) (m : Int) (h : 3000 < s.size) (w : World) :
    Calls Try.prog 3 #[.string s, .int .i64 m] w (Tells (.bool true) w.heap.size w) := by
  have h1i : (3000 : Int) < (s.size : Int) := by omega
  go_enter Try.func3, Try.ntmps3
  go_wp2
  go_ret
  exact ⟨rfl, chainA (Below.refl _ _) _⟩
theorem numb_get (j : Nat) (l : List (List UInt8)) (i : Nat) : (numb j l)[i]? = (l[i]?).map fun x => (j + i, x) := by
  induction l generalizing j i with
  | nil => simp [numb]
  | cons x r ih =>
    cases i with
    | zero => simp [numb]
    | succ i =>
      rw [numb, List.getElem?_cons_succ, List.getElem?_cons_succ, ih]
      congr 1
      funext y
      rw [show j + 1 + i = j + (i + 1) by omega]
/-- What stands in memory, when both have told their lines. -/
structure Both (w : World) (m : Int) (l : List (List UInt8)) (g1 g2 g6 cap : Nat) (V : World) : Prop where
  has : Has w [(g6, 24, #[.slice (some ⟨g2, 0, none⟩) l.length cap]), (w.heap.size, 3, #[.int .i64 m])] V
  s1 : g1 < V.heap.size
  s2 : g2 < V.heap.size
  r1 : ∀ i x, l[i]? = some x → V.cell? ⟨g1, i, none⟩ = some (.string (bA x))
  r2 : ∀ i x, l[i]? = some x → V.cell? ⟨g2, i * 4, none⟩ = some (.int .i64 ((i + 1 : Nat) : Int)) ∧ V.cell? ⟨g2, i * 4 + 1, none⟩ = some (.string (bA x)) ∧ V.cell? ⟨g2, i * 4 + 2, none⟩ = some (.int .u8 (kindL x)) ∧ V.cell? ⟨g2, i * 4 + 3, none⟩ = some (.int .i64 (wrongL x))
theorem Both.call {w V u : World} {m : Int} {l : List (List UInt8)} {g1 g2 g6 cap : Nat} (h : Both w m l g1 g2 g6 cap V) (hb : Below V.heap.size V u) : Both w m l g1 g2 g6 cap u :=
  ⟨h.has.call hb, Nat.lt_of_lt_of_le h.s1 hb.size, Nat.lt_of_lt_of_le h.s2 hb.size, fun i x hx => (hb.cell (p := ⟨g1, i, none⟩) h.s1).trans (h.r1 i x hx), fun i x hx => by
    obtain ⟨a, b, c, d⟩ := h.r2 i x hx
    exact ⟨(hb.cell (p := ⟨g2, _, none⟩) h.s2).trans a, (hb.cell (p := ⟨g2, _, none⟩) h.s2).trans b, (hb.cell (p := ⟨g2, _, none⟩) h.s2).trans c, (hb.cell (p := ⟨g2, _, none⟩) h.s2).trans d⟩⟩

set_option maxRecDepth 100000 in
set_option maxHeartbeats 8000000 in
theorem ltells_short (s : ByteArray) (m : Int) (hm0 : -9223372036854775808 ≤ m) (hm1 : m < 9223372036854775808) (h : s.size ≤ 3000) (w : World) :
    Calls Try.prog 3 #[.string s, .int .i64 m] w (Tells (.bool true) w.heap.size w) := by
  have cS := fun u => rsplit_any s (by omega) u
  have cA := fun u => all_any s (by omega) u
  have cE := fun u => each_any s u
  have cC := fun u => check_any s (by omega) u
  have cR := fun u => rcheck_any s (by omega) u
  have hseq := fun (n : Nat) (hn : 1 ≤ n) (B : Nat) (W : World) (h1 : W.cell? ⟨B, 0, none⟩ = some (.string s)) (h2 : B < W.heap.size) => each_stops n hn B s (by omega) W h1 h2
  have hsi : ¬ ((3000 : Int) < (s.size : Int)) := by omega
  have hmem := split_mem s.data.toList
  have hne := split_ne s.data.toList
  have hln := split_len s.data.toList
  have hcl := List.count_le_length (l := s.data.toList) (a := (10 : UInt8))
  rw [ba_size] at hmem hcl
  unfold linesL at cA hseq
  obtain ⟨F1, hF1⟩ : ∃ F1, (firstW (linesL s.data.toList)).1 = F1 := ⟨_, rfl⟩
  obtain ⟨F2, hF2⟩ : ∃ F2, (firstW (linesL s.data.toList)).2 = F2 := ⟨_, rfl⟩
  rw [hF1, hF2] at cC cR
  clear hF1 hF2
  generalize splitL s.data.toList = l at *
  simp only [LineRow, numb_len] at cA
  have hpos : 0 < l.length := List.length_pos_iff.2 hne
  have hll : l.length ≤ 3001 := by omega
  have HM := hideIt hmem
  clear hmem hne hln hcl
  refine (callsIn_wide (n := 9)).1 (callsIn_of_wp_marks Try.func3 rfl trivial ?_ rfl)
  simp only [Try.ntmps3, List.size_toArray, List.length_cons, List.length_nil, Nat.reduceAdd, Nat.reduceSub, Array.replicate_succ, Array.replicate_zero, List.push_toArray, List.append_toArray, List.nil_append, List.cons_append]
  refine wpIn_wide.2 ?_
  go_upto_region 4 with (first
    | (go_at_call 9; refine (cS _).mono ?_; rintro e w1 ⟨v1, rfl, hO, b1⟩))
  have H0 := (Has.start w).add 3 #[.int .i64 m]
  have H1 := H0.call b1
  obtain ⟨g1, cap1, rfl, hg1, hs1, -, -, hc1, -⟩ := own_row hO hpos
  clear hO cS
  go_upto_region 5 with (first
    | (go_at_call 10; refine (cA _).mono ?_; rintro e w2 ⟨v2, rfl, ⟨g2, cap, rfl, hg2, hs2, hc2⟩, b2⟩))
  have B1 : Both w m l g1 g2 w2.heap.size cap (w2.alloc (.cells #[.slice (some ⟨g2, 0, none⟩) l.length cap] 24)) := by
    have hb := Below.alloc (Below.refl w2.heap.size w2) (Nat.le_refl _) (.cells #[.slice (some ⟨g2, 0, none⟩) l.length cap] 24)
    refine ⟨(H1.call b2).add _ _, ?_, ?_, fun i x hx => ?_, fun i x hx => ?_⟩
    · have := b2.size; have := hb.size; omega
    · have := hb.size; omega
    · exact (hb.cell (p := ⟨g1, i, none⟩) (Nat.lt_of_lt_of_le hs1 b2.size)).trans ((b2.cell (p := ⟨g1, i, none⟩) hs1).trans (hc1 i _ (by unfold strCs; rw [List.getElem?_map, hx]; rfl)))
    · obtain ⟨a, b, c, d⟩ := hc2 i (i + 1, x) (by rw [numb_get, hx, Nat.add_comm 1 i]; rfl)
      exact ⟨(hb.cell (p := ⟨g2, _, none⟩) hs2).trans a, (hb.cell (p := ⟨g2, _, none⟩) hs2).trans b, (hb.cell (p := ⟨g2, _, none⟩) hs2).trans c, (hb.cell (p := ⟨g2, _, none⟩) hs2).trans d⟩
  have hg6 : w.heap.size < w2.heap.size := (H1.call b2).box 0 |>.inside
  obtain ⟨g6, hg6e⟩ : ∃ g6, w2.heap.size = g6 := ⟨_, rfl⟩
  rw [hg6e] at B1 hg6 ⊢
  clear H0 H1 hc1 hc2 hs1 hs2 hg1 hg2 cA b1 b2 hg6e
  generalize World.alloc w2 _ = V at *
  have facts : ∀ u, Below V.heap.size V u → u.cell? ⟨g6, 0, none⟩ = some (.slice (some ⟨g2, 0, none⟩) l.length cap) ∧ u.cell? ⟨w.heap.size, 0, none⟩ = some (.int .i64 m) ∧ g6 < u.heap.size ∧ w.heap.size < u.heap.size ∧ g1 < u.heap.size ∧ g2 < u.heap.size := fun u hu => by
    have h := B1.call hu
    exact ⟨(h.has.box 0).read 0, (h.has.box 1).read 0, (h.has.box 0).inside, (h.has.box 1).inside, h.s1, h.s2⟩
  obtain ⟨x1, x2, x3, x4, x5, x6⟩ := facts V (Below.refl _ _)
  go_wp2
  go_loopg [7, 8] l.length (fun gk i x wr => ∃ k : Nat, k ≤ l.length ∧ gk = l.length - k ∧ i = .int .i64 k ∧ Below V.heap.size V wr)
  case atStart => exact ⟨0, by omega, rfl, rfl, Below.refl _ _⟩
  case round =>
    clear x1 x2 x3 x4 x5 x6
    obtain ⟨k, hk, hgk, rfl, hb⟩ := hrel
    have HG := hideIt hgk
    clear hgk
    obtain ⟨x1, x2, x3, x4, x5, x6⟩ := facts wr hb
    have hkk : IntKind.i64.wrap ((k : Int) + 1) = ((k + 1 : Nat) : Int) := by rw [IntKind.wrap_i64]; omega
    by_cases hlt : k < l.length
    · have hlti : (k : Int) < (l.length : Int) := by omega
      obtain ⟨x, hx⟩ : ∃ x, l[k]? = some x := ⟨_, List.getElem?_eq_getElem hlt⟩
      obtain ⟨y0, y1, y2, y3⟩ := (B1.call hb).r2 k x hx
      have z1 := (B1.call hb).r1 k x hx
      have hxs : (bA x).size ≤ 1000000 := by rw [bA_size]; have := HM.out x (List.mem_of_getElem? hx); omega
      have cW := fun u => rwrong_any (bA x) hxs u
      have cK := fun u => kind_any (bA x) u
      have cQ := fun u => rkind_any (bA x) u
      rw [bA_list] at cW cK cQ
      go_upto_region 11 with fail
      have BX := Box.made wr 28 #[.int .i64 ((k : Int) + 1), .string (bA x), .int .u8 (kindL x), .int .i64 (wrongL x)]
      have bX := Below.alloc (Below.refl wr.heap.size wr) (Nat.le_refl _) (.cells #[.int .i64 ((k : Int) + 1), .string (bA x), .int .u8 (kindL x), .int .i64 (wrongL x)] 28)
      obtain ⟨nb, hnb⟩ : ∃ nb, wr.heap.size = nb := ⟨_, rfl⟩
      have Z1 := (bX.cell (p := ⟨g1, k, none⟩) x5).trans z1
      have Z2 : g1 < (wr.alloc (.cells #[.int .i64 ((k : Int) + 1), .string (bA x), .int .u8 (kindL x), .int .i64 (wrongL x)] 28)).heap.size := Nat.lt_of_lt_of_le x5 bX.size
      have hbX := chain hb bX
      rw [hnb] at BX ⊢
      clear x1 x2 x3 x4 x5 x6 y0 y1 y2 y3 z1 hnb hx bX
      generalize World.alloc wr _ = X at *
      generalize wrongL x = ww at *
      generalize kindL x = kk at *
      have keepQ : ∀ u, Below X.heap.size X u → ((u.cell? ⟨nb, 0, none⟩ = some (.int .i64 ((k : Int) + 1)) ∧ u.cell? ⟨nb, 1, none⟩ = some (.string (bA x)) ∧ u.cell? ⟨nb, 2, none⟩ = some (.int .u8 kk) ∧ u.cell? ⟨nb, 3, none⟩ = some (.int .i64 ww)) ∧
          u.cell? ⟨g1, k, none⟩ = some (.string (bA x)) ∧ nb < u.heap.size ∧ g1 < u.heap.size) := fun u hu =>
        have b1 := BX.call hu
        ⟨⟨b1.read 0, b1.read 1, b1.read 2, b1.read 3⟩, (hu.cell (p := ⟨g1, k, none⟩) Z2).trans Z1, b1.inside, Nat.lt_of_lt_of_le Z2 hu.size⟩
      go_cut [81] from 28 to 81 (fun v wx => v = .bool false ∧ Below X.heap.size X wx)
      case first =>
        go_region_held3 (fun u => Below X.heap.size X u ∧ ((u.cell? ⟨nb, 0, none⟩ = some (.int .i64 ((k : Int) + 1)) ∧ u.cell? ⟨nb, 1, none⟩ = some (.string (bA x)) ∧ u.cell? ⟨nb, 2, none⟩ = some (.int .u8 kk) ∧ u.cell? ⟨nb, 3, none⟩ = some (.int .i64 ww)) ∧
          u.cell? ⟨g1, k, none⟩ = some (.string (bA x)) ∧ nb < u.heap.size ∧ g1 < u.heap.size))
          (first
            | exact keep_first (by assumption) (by assumption) (fun hb => ⟨hb, keepQ _ hb⟩)
            | exact ⟨(Below.refl _ _).drew, keepQ _ (Below.refl _ _).drew⟩
            | with_reducible assumption
            | fail)
          (first
            | (go_at_call 11; (with_reducible refine (cQ _).mono ?_); rintro e w11 ⟨rfl, rfl⟩)
            | (go_at_call 12; (with_reducible refine (cW _).mono ?_); rintro e w12 ⟨rfl, j12⟩)
            | (go_at_call 13; (with_reducible refine (cK _).mono ?_); rintro e w13 ⟨rfl, rfl⟩)
            | fail)
        all_goals go_wp2_with fail
        all_goals go_meet
        all_goals exact ⟨rfl, And.left (by assumption)⟩
      case rest =>
        obtain ⟨rfl, Z10⟩ := hcut
        go_wp2
        go_roundg (l.length - (k + 1))
        case measure => have := HG.out; omega
        case rel => exact ⟨k + 1, by omega, rfl, by go_num, chain hbX Z10⟩
    · have e : k = l.length := by omega
      subst e
      have hnil : ∀ (B : Nat) (u : World), (binOp .eql 32 (.func (.func 28) #[] #[.pointer (some ⟨B, 0, none⟩)]) .nilFunc).run Try.prog u = .ok (.bool false) u := fun B u => by kernel_rfl
      clear x1 x2 x3 x4 x5 x6
      go_wp2_with (first
        | (go_at_call 14; refine (cE _).mono ?_; rintro e w1 ⟨rfl, rfl⟩))
      have T0 := Box.made wr 3 #[.int .i64 0]
      have L0 := Below.alloc (Below.refl wr.heap.size wr) (Nat.le_refl _) (.cells #[.int .i64 0] 3)
      have T1 := T0.past (.cells #[.string s] 9)
      have L1 := chainA L0 (.cells #[.string s] 9)
      have bx := Box.made (wr.alloc (.cells #[.int .i64 0] 3)) 9 #[.string s]
      rw [World.size_alloc] at bx
      have hYs : ((wr.alloc (.cells #[.int .i64 0] 3)).alloc (.cells #[.string s] 9)).heap.size = wr.heap.size + 2 := by simp
      have LV := chain hb L1
      clear T0 L0 cE hnil
      generalize World.alloc (World.alloc _ _) _ = Y at *
      obtain ⟨n9, hn9⟩ : ∃ n9, wr.heap.size = n9 := ⟨_, rfl⟩
      have hVn : V.heap.size ≤ n9 := by rw [← hn9]; exact hb.size
      have hwn : w.heap.size < n9 := by rw [← hn9]; have := (facts wr hb).2.2.2.1; exact this
      rw [hn9] at T1 L1 bx hYs ⊢
      clear hb
      refine (wpIn_wide (n := 9)).1 ?_
      refine wpIn_rangeFunc_ownH (F := Fence.wide) (n := 9) rfl (by decide) (gf := 28) (lb := #[.pointer (some ⟨n9 + 1, 0, none⟩)]) rfl trivial (enters_of Try.func28 (by kernel_rfl) rfl)
        (hseq 8 (by decide) (n9 + 1) Y (bx.read 0) bx.inside) (fun _ _ => trivial)
        (fun W l o o' hl h _ _ => trivial) (Below.refl _ _) (fun _ => rfl)
        (fun pre W => (Box W n9 3 #[.int .i64 (pre.length : Nat)] ∧ Below V.heap.size V W) ∧ (pre.length : Int) ≤ max 0 m)
        (fun c pre W => (c = .exit 2 ∧ ∃ (q : List (Nat × List UInt8)) (x : Nat × List UInt8), pre = q ++ [x] ∧ (q.length : Int) ≤ max 0 m ∧ (m ≤ (q.length : Int) ∨ (numb 1 l)[q.length]? ≠ some x) ∧ (Box W n9 3 #[.int .i64 (q.length : Nat)] ∧ Below V.heap.size V W)))
        (OwnFrom.and (OwnFrom.and (Own.from (box_own n9 _ (fun pre : List (Nat × List UInt8) => #[.int .i64 (pre.length : Nat)])) _) (ownFrom_below (Nat.le_refl _) (by omega))) (fun _ _ _ _ hs _ _ => hs))
        (fun c s W W' row hs hg hr => by
          obtain ⟨hc, q, x, h1, h2, h3, h4, h5⟩ := hs
          exact ⟨hc, q, x, h1, h2, h3, box_own (β := Unit) n9 _ (fun _ => _) () W W' row h4 hg (fun r e => (hr r e).2), ownFrom_below (β := Unit) (Nat.le_refl _) (by omega) () W W' row h5 hg hr⟩)
        ⟨⟨T1, LV⟩, by simp; omega⟩
        (fun x a' W => ∃ Bx, n9 < Bx ∧ Box W Bx 28 #[.int .i64 x.1, .string (bA x.2), .int .u8 (kindL x.2), .int .i64 (wrongL x.2)] ∧ a' = { tmps := #[.string s, .int .i64 m, undef, .pointer (some ⟨w.heap.size, 0, none⟩), u4, .slice (some ⟨g1, 0, none⟩) l.length cap1, .pointer (some ⟨g6, 0, none⟩), .int .i64 l.length, u8, .pointer (some ⟨n9, 0, none⟩), .func (.func 28) #[] #[.pointer (some ⟨n9 + 1, 0, none⟩)], .pointer (some ⟨Bx, 0, none⟩), undef, undef, undef, undef, .string s, .int .i64 s.size, .bool false, .string s, .slice (some ⟨g1, 0, none⟩) l.length cap1, .string s, .slice (some ⟨g2, 0, none⟩) l.length cap, .slice (some ⟨g2, 0, none⟩) l.length cap, .int .i64 l.length, .slice (some ⟨g1, 0, none⟩) l.length cap1, .int .i64 l.length, .bool false, .int .i64 l.length, .slice (some ⟨g1, 0, none⟩) l.length cap1, .int .i64 l.length, .bool false, u32, u33, u34, u35, u36, u37, u38, u39, u40, u41, u42, u43, u44, u45, u46, u47, u48, u49, u50, u51, u52, u53, u54, u55, u56, u57, u58, u59, u60, u61, u62, u63, u64, u65, u66, u67, u68, u69, u70, u71, u72, u73, u74, u75, u76, u77, u78, u79, u80, u81, .string s, .func (.func 28) #[] #[.pointer (some ⟨n9 + 1, 0, none⟩)], .func (.func 28) #[] #[.pointer (some ⟨n9 + 1, 0, none⟩)], .bool false, .func (.func 28) #[] #[.pointer (some ⟨n9 + 1, 0, none⟩)], .agg #[.int .i64 x.1, .string (bA x.2), .int .u8 (kindL x.2), .int .i64 (wrongL x.2)], undef, undef, undef, undef, undef, undef, undef, undef, undef, undef, undef, undef, undef, undef, undef, undef, undef, undef, undef, undef, undef, undef, undef, undef, undef, undef, undef, undef, undef, undef, undef, undef, undef, undef, undef, undef, undef, undef, undef, undef, undef, undef, undef, undef, undef, undef], defers := [] })
        ?hAx ?assign ?body ?done ?stop
      case assign =>
        intro l' pre x W K hI hK
        have hb : n9 < W.heap.size := hI.1.1.inside
        simp only [lineV] at hK ⊢
        obtain ⟨nn, hnn⟩ : ∃ nn, W.heap.size = nn := ⟨_, rfl⟩
        gi_wp2
        have h1 := (KeepsOthers.alloc W (.cells #[.int .i64 x.1, .string (bA x.2), .int .u8 (kindL x.2), .int .i64 (wrongL x.2)] 28)).from Y.heap.size
        have h2 := (Below.refl W.heap.size W).alloc (Nat.le_refl _) (.cells #[.int .i64 x.1, .string (bA x.2), .int .u8 (kindL x.2), .int .i64 (wrongL x.2)] 28)
        have h3 := Box.made W 28 #[.int .i64 x.1, .string (bA x.2), .int .u8 (kindL x.2), .int .i64 (wrongL x.2)]
        rw [hnn] at h3 hb
        exact hK _ _ h1 trivial ⟨⟨hI.1.1.call h2, chain hI.1.2 h2⟩, hI.2⟩ ⟨nn, hb, h3, rfl⟩
      case hAx =>
        rintro x a' s W W' row ⟨Bx, h1, h2, h3⟩ hg hr
        exact ⟨Bx, h1, box_own (β := Unit) Bx _ (fun _ => _) () W W' row h2 hg (fun r e => (hr r e).2), h3⟩
      case body =>
        rintro l' pre x a' W hl ⟨r, hr⟩ ⟨⟨hbn, hbV⟩, hmx⟩ ⟨Bx, hBx, hbox, rfl⟩ hlt2
        have hln : (numb 1 l).length = l.length := numb_len 1 l
        rw [hln] at hlt2
        obtain ⟨x', hx'⟩ : ∃ x', l[pre.length]? = some x' := ⟨_, List.getElem?_eq_getElem hlt2⟩
        have B2 := B1.call hbV
        obtain ⟨y0, y1, y2, y3⟩ := B2.r2 pre.length x' hx'
        obtain ⟨x1, x2, x3, x4, x5, x6⟩ := facts W hbV
        have hnum : (numb 1 l)[pre.length]? = some (pre.length + 1, x') := by rw [numb_get, hx', Nat.add_comm 1]; rfl
        obtain ⟨N1, hN1⟩ : ∃ N1, pre.length + 1 = N1 := ⟨_, rfl⟩
        have hwr : IntKind.i64.wrap ((pre.length : Int) + 1) = (N1 : Int) := by rw [IntKind.wrap_i64]; omega
        have hw1 : IntKind.i64.wrap (1 : Int) = 1 := by decide
        rw [hN1] at y0 hnum
        have r0 : W.cell? ⟨Bx, 0, none⟩ = some (.int .i64 x.1) := hbox.read 0
        have r1 : W.cell? ⟨Bx, 1, none⟩ = some (.string (bA x.2)) := hbox.read 1
        have r2 : W.cell? ⟨Bx, 2, none⟩ = some (.int .u8 (kindL x.2)) := hbox.read 2
        have r3 : W.cell? ⟨Bx, 3, none⟩ = some (.int .i64 (wrongL x.2)) := hbox.read 3
        have c0 : W.cell? ⟨n9, 0, none⟩ = some (.int .i64 (pre.length : Nat)) := hbn.read 0
        have f0 := hbn.free 0
        have hbi := hbox.inside
        have hni := hbn.inside
        have hq := fun u => run_neq_lines x (N1, x') u
        have hlti2 : (pre.length : Int) < (l.length : Int) := by omega
        have hq1 : ∀ u : World, (binOp .neq 28 (.agg #[.int .i64 x.1, .string (bA x.2), .int .u8 (kindL x.2), .int .i64 (wrongL x.2)]) (.agg #[.int .i64 N1, .string (bA x'), .int .u8 (kindL x'), .int .i64 (wrongL x')])).run Try.prog u = .ok (.bool (!decide (x = (N1, x')))) u := hq
        clear hq
        by_cases hge : m ≤ (pre.length : Int)
        · clear y0 y1 y2 y3 r1 r2 r3 hq1 hnum hwr
          gi_wp2
          refine round_quiet (by kernel_rfl) (by kernel_rfl) (by kernel_rfl) (fun ⟨a, u, h⟩ => h) ?_
          repeat (go_big_quiet_step (fail))
          refine wpQuiet_nil ?_
          intro _ hw'
          obtain ⟨nq, hw''⟩ := hw'
          subst hw''
          gi_wp2
          exact ⟨(keeps_call (below_drewN (Below.refl _ _) _)).from _, rfl, pre, x, rfl, hmx, Or.inl hge, hbn, below_drewN hbV _⟩
        · have hgeb : decide (m ≤ (pre.length : Int)) = false := decide_eq_false hge
          have hgel : decide ((l.length : Int) ≤ (pre.length : Int)) = false := decide_eq_false (by omega)
          have hgen : decide (l.length ≤ pre.length) = false := decide_eq_false (by omega)
          by_cases hxy : x = (N1, x')
          · rw [decide_eq_true hxy] at hq1
            clear hnum
            gi_wp2
            refine round_quiet (by kernel_rfl) (by kernel_rfl) (by kernel_rfl) (fun ⟨a, u, h⟩ => h) ?_
            repeat (go_big_quiet_step (fail))
            refine wpQuiet_nil ?_
            intro _ hw'
            obtain ⟨nq, hw''⟩ := hw'
            subst hw''
            gi_wp2
            have e1 : (pre ++ [x]).length = N1 := by rw [List.length_append]; exact hN1
            refine ⟨((keeps_call (below_drewN (Below.refl _ _) _)).trans (KeepsOthers.setCell _ _ _)).from _, trivial, ⟨?_, (below_drewN hbV _).setCell (p := ⟨n9, 0, none⟩) hVn _⟩, by rw [e1]; omega⟩
            rw [e1]
            exact hbn.wrote 0 (.int .i64 N1)
          · rw [decide_eq_false hxy] at hq1
            have hne2 : (numb 1 l)[pre.length]? ≠ some x := by rw [hnum]; intro h; injection h with h; exact hxy h.symm
            clear hnum
            gi_wp2
            refine round_quiet (by kernel_rfl) (by kernel_rfl) (by kernel_rfl) (fun ⟨a, u, h⟩ => h) ?_
            repeat (go_big_quiet_step (fail))
            refine wpQuiet_nil ?_
            intro _ hw'
            obtain ⟨nq, hw''⟩ := hw'
            subst hw''
            gi_wp2
            exact ⟨(keeps_call (below_drewN (Below.refl _ _) _)).from _, rfl, pre, x, rfl, hmx, Or.inr hne2, hbn, below_drewN hbV _⟩
      case done =>
        rintro D xs W hD rfl ⟨⟨hbn, hbV⟩, hmx⟩ hK
        rw [numb_len] at hmx hbn
        have hmm : max 0 (min m (l.length : Int)) = (l.length : Int) := by omega
        obtain ⟨x1, x2, x3, x4, x5, x6⟩ := facts W hbV
        have c0 : W.cell? ⟨n9, 0, none⟩ = some (.int .i64 (l.length : Nat)) := hbn.read 0
        have keep2 : ∀ u, Below W.heap.size W u → u.cell? ⟨n9, 0, none⟩ = some (.int .i64 (l.length : Nat)) ∧ u.cell? ⟨w.heap.size, 0, none⟩ = some (.int .i64 m) ∧ u.cell? ⟨g6, 0, none⟩ = some (.slice (some ⟨g2, 0, none⟩) l.length cap) ∧ u.heap[D]? = some (.deferred (some [])) := fun u hu =>
          ⟨(hbn.call hu).read 0, (facts u (chain hbV hu)).2.1, (facts u (chain hbV hu)).1, (hu.block D (Array.getElem?_eq_some_iff.1 hK).1).trans hK⟩
        try dsimp only [Exit.inBlock, Exit.then]
        go_wp2_with (first
          | (go_at_call 15; refine (cC _).mono ?_; rintro e w5 ⟨rfl, b5⟩)
          | (go_at_call 16; refine (cR _).mono ?_; rintro e w6 ⟨rfl, b6⟩; obtain ⟨d1, d2, d3, d4⟩ := keep2 w6 (chain b5 b6)))
        refine ⟨by simp, .inl ⟨_, _, rfl, run_takeDeferred d4, ?_⟩⟩
        have hB6 := chain B1.has.below (chain hbV (chain b5 b6))
        exact ⟨_, results_tmp rfl _ _ _, rfl, hB6.trans (belowK_b (w := w) (Nat.le_refl _) w6 D _ _ (by omega) d4 rfl rfl)⟩
      case stop =>
        rintro D c pre W hD hSp ⟨rfl, q, x, rfl, hqm, hcase, hbn, hbV⟩ hK
        obtain ⟨rest, hrest⟩ := hSp
        have hat : (numb 1 l)[q.length]? = some x := by rw [← hrest]; simp
        have hlt3 : q.length < l.length := by
          have := (List.getElem?_eq_some_iff.1 hat).1
          rw [numb_len] at this
          exact this
        have hmm : max 0 (min m (l.length : Int)) = (q.length : Int) := by
          rcases hcase with h | h
          · omega
          · exact absurd hat h
        clear hcase hat hlt3 hrest rest
        gi_wp2
        obtain ⟨x1, x2, x3, x4, x5, x6⟩ := facts W hbV
        have c0 : W.cell? ⟨n9, 0, none⟩ = some (.int .i64 (q.length : Nat)) := hbn.read 0
        have keep2 : ∀ u, Below W.heap.size W u → u.cell? ⟨n9, 0, none⟩ = some (.int .i64 (q.length : Nat)) ∧ u.cell? ⟨w.heap.size, 0, none⟩ = some (.int .i64 m) ∧ u.cell? ⟨g6, 0, none⟩ = some (.slice (some ⟨g2, 0, none⟩) l.length cap) ∧ u.heap[D]? = some (.deferred (some [])) := fun u hu =>
          ⟨(hbn.call hu).read 0, (facts u (chain hbV hu)).2.1, (facts u (chain hbV hu)).1, (hu.block D (Array.getElem?_eq_some_iff.1 hK).1).trans hK⟩
        try dsimp only [Exit.inBlock, Exit.then]
        go_wp2_with (first
          | (go_at_call 15; refine (cC _).mono ?_; rintro e w5 ⟨rfl, b5⟩)
          | (go_at_call 16; refine (cR _).mono ?_; rintro e w6 ⟨rfl, b6⟩; obtain ⟨d1, d2, d3, d4⟩ := keep2 w6 (chain b5 b6)))
        refine ⟨by simp, .inl ⟨_, _, rfl, run_takeDeferred d4, ?_⟩⟩
        have hB6 := chain B1.has.below (chain hbV (chain b5 b6))
        exact ⟨_, results_tmp rfl _ _ _, rfl, hB6.trans (belowK_b (w := w) (Nat.le_refl _) w6 D _ _ (by omega) d4 rfl rfl)⟩

theorem linesTells_core (H : Type) (enc : TypeId × Value → H) (W : World) (base : Nat) (args : Array Value) (ds gs : List (DataW H)) (before : List MemPlace)
    (hval : ∀ (j : Nat) t v, Try.f3.params[j]? = some t → args[j]? = some v → Value.okWide Try.prog W .any base t v)
    (hW : DataW.Whole enc Try.prog Try.f3.params.toList Rows.linesTellsSpec.vars false W args.toList ds gs before) :
    gs = [] ∧ ds.length = 2 ∧ Calls Try.prog 3 args W (Tells (.bool true) W.heap.size W) := by
  obtain ⟨p, q, hA, hV, -, -, -⟩ := hW
  obtain ⟨rfl, rfl⟩ := trodVars_none hV
  have hA : DataW.TrodAll enc Try.prog W 0 (fun _ => true) true Try.f3.params.toList args.toList ds p := hA
  rw [Try.params3] at hA hval
  obtain ⟨v0, vs0, d0, ds0, p0, ps0, e0, rfl, -, h0, hA⟩ := trodAll_cons hA
  obtain ⟨v1, vs1, d1, ds1, p1, ps1, rfl, rfl, -, h1, hA⟩ := trodAll_cons hA
  obtain ⟨rfl, rfl, rfl⟩ := trodAll_nil hA
  obtain rfl : args = #[v0, v1] := Array.ext' e0
  obtain ⟨s, rfl, rfl, rfl, hs⟩ := Go.ChangeMaps.open_string Try.underlying9 (hval 0 9 v0 rfl rfl) h0
  obtain ⟨m, rfl, -, -, wm⟩ := open_int Try.underlying3 (hval 1 3 v1 rfl rfl) h1
  simp [Lit.wf, IntKind.min, IntKind.max, IntKind.signed, IntKind.bits] at wm
  refine ⟨rfl, rfl, ?_⟩
  by_cases h : 3000 < s.size
  · exact ltells_long s m h W
  · exact ltells_short s m (by omega) (by omega) (by omega) W

set_option maxRecDepth 100000 in
theorem linesTells_lifted (os : Os) (started : os.Started) (H : Type) (enc : TypeId × Value → H) :
    ReturnsInHanded {} Try.checked os 3 .any (Rows.linesTellsSpec.pre6 enc Try.prog Try.f3 Rows.linesTellsRow.domain false) (Rows.linesTellsSpec.post enc Try.prog Try.f3 false true false false) := by
  refine returnsInHanded_of_change (C := Try.checked) own_knob started (by kernel_rfl) Try.func3
    (ChangeSpec.witness6 (enc := enc) (C := Try.checked) false ⟨#[], #[.string ⟨#[]⟩, .int .i64 0], []⟩ 8 (by kernel_rfl) (by kernel_rfl) (by kernel_rfl) (by kernel_rfl)) ?_
  intro W base args ds gs before hval hW _ _
  obtain ⟨hg, hlen, hc⟩ := linesTells_core H enc W base args ds gs before hval hW
  subst hg
  have hr : (Try.f3.params.toList.all fun t => Try.prog.readableRec t && decide (t < Try.prog.types.size)) = true := by kernel_rfl
  have hread : ∀ t ∈ Try.f3.params.toList, Try.prog.readableRec t = true ∧ t < Try.prog.types.size := fun t ht => by
    have h := List.all_eq_true.1 hr t ht
    rw [Bool.and_eq_true, decide_eq_true_eq] at h
    exact h
  refine hc.mono fun e W' ⟨he, hb⟩ => ?_
  subst he
  match ds, hlen with
  | [d0, d1], _ => exact ⟨_, rfl, law_post laid_out Try.underlying4 rfl hread rfl hW rfl rfl rfl hb⟩

theorem linesTells_holds : Rows.LinesTellsSaid :=
  OpenClaim.holds_of_wide 3 Try.f3 rfl rfl rfl rfl rfl rfl rfl ⟨rfl, rfl, rfl, rfl, rfl⟩ rfl rfl rfl rfl rfl (by kernel_rfl) Try.func3 (by kernel_rfl)
    (of_decide_eq_true (by kernel_rfl)) (by unfold Func.isWrapper; first | (rw [if_pos (by decide +kernel)]; kernel_rfl) | (rw [if_neg (by decide +kernel)]; exact ⟨rfl, rfl⟩))
    (fun os started H enc _ => linesTells_lifted os started H enc)

end Go.Proofs.Ytpblnhphkikfaaa
