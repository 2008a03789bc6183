/-
  The law's own small call on what is read, walked: read.
-/
import Derived.Test.YtakhdhbalmcohaaDoorU8Awake
import Derived.Test.YtakhdhbalmcohaaDoorD8Op
namespace Go.Proofs.YtakhdhbalmcohaaDoor
set_option linter.unusedVariables false
set_option linter.unusedSimpArgs false
set_option maxRecDepth 10000
open Go.RowKit Go.Shelf

/-- A thing as it was read. -/
def rdTh (k : Nat) (m : Int) (v : Vl) : Th := ⟨k, v.h, v.l, ofL v.s, m⟩

/-- What is read lies in a block; it is told by another one. -/
theorem read_told {w V : World} {g : Nat} {st : Option (List UInt8)} {x : Th} {c0 c1 c2 c3 c4 : Value} (hx : Box V (w.heap.size + 1) 37 (thC x)) (hz : Box V w.heap.size 37 #[c0, c1, c2, c3, c4]) (hg : g < w.heap.size) (hs : InS V g st) (hk : Off (One g) w V) :
    let Z := ((((V.setCell ⟨w.heap.size, 0, none⟩ (.int .u8 x.k)).setCell ⟨w.heap.size, 1, none⟩ (.int .u64 x.h)).setCell ⟨w.heap.size, 2, none⟩ (.int .u64 x.l)).setCell ⟨w.heap.size, 3, none⟩ (.string x.s)).setCell ⟨w.heap.size, 4, none⟩ (.int .i64 x.m)
    Box Z w.heap.size 37 (thC x) ∧ InS Z g st ∧ Off (One g) w Z := by
  intro Z
  have b1 := ((((hz.wrote 0 (.int .u8 x.k)).wrote 1 (.int .u64 x.h)).wrote 2 (.int .u64 x.l)).wrote 3 (.string x.s)).wrote 4 (.int .i64 x.m)
  have k0 := (((((Off.refl (One w.heap.size) V).set_ (p := ⟨w.heap.size, 0, none⟩) (Or.inl rfl) (.int .u8 x.k)).set_ (p := ⟨w.heap.size, 1, none⟩) (Or.inl rfl) (.int .u64 x.h)).set_ (p := ⟨w.heap.size, 2, none⟩) (Or.inl rfl) (.int .u64 x.l)).set_ (p := ⟨w.heap.size, 3, none⟩) (Or.inl rfl) (.string x.s)).set_ (p := ⟨w.heap.size, 4, none⟩) (Or.inl rfl) (.int .i64 x.m)
  exact ⟨b1, hs.off k0 hz (by omega) (by decide), hk.behind k0 (fun i hi => Or.inr (by have : i = w.heap.size := hi; omega))⟩
theorem two_puts {w V : World} {g r : Nat} {st : Option (List UInt8)} {x : Th} (hx : Box V r 37 (thC x)) (h l : Int) (hr : w.heap.size ≤ r) (hg : g < w.heap.size) (hs : InS V g st) (hk : Off (One g) w V) {b : Nat} {t : TypeId} {cs : Array Value} (hb : Box V b t cs) (hbr : b ≠ r) :
    Box ((V.setCell ⟨r, 1, none⟩ (.int .u64 h)).setCell ⟨r, 2, none⟩ (.int .u64 l)) r 37 (thC { x with h := h, l := l }) ∧ InS ((V.setCell ⟨r, 1, none⟩ (.int .u64 h)).setCell ⟨r, 2, none⟩ (.int .u64 l)) g st ∧
      Off (One g) w ((V.setCell ⟨r, 1, none⟩ (.int .u64 h)).setCell ⟨r, 2, none⟩ (.int .u64 l)) ∧ Box ((V.setCell ⟨r, 1, none⟩ (.int .u64 h)).setCell ⟨r, 2, none⟩ (.int .u64 l)) b t cs := by
  have k0 := ((Off.refl (One r) V).set_ (p := ⟨r, 1, none⟩) (Or.inl rfl) (.int .u64 h)).set_ (p := ⟨r, 2, none⟩) (Or.inl rfl) (.int .u64 l)
  exact ⟨(hx.wrote 1 _).wrote 2 _, hs.off k0 hx (by omega) (by decide), hk.behind k0 (fun i hi => Or.inr (by have : i = r := hi; omega)), k0.box hb (fun e => hbr e)⟩
theorem one_put {w V : World} {g r : Nat} {st : Option (List UInt8)} {x : Th} (hx : Box V r 37 (thC x)) (s : ByteArray) (hr : w.heap.size ≤ r) (hg : g < w.heap.size) (hs : InS V g st) (hk : Off (One g) w V) {b : Nat} {t : TypeId} {cs : Array Value} (hb : Box V b t cs) (hbr : b ≠ r) :
    Box (V.setCell ⟨r, 3, none⟩ (.string s)) r 37 (thC { x with s := s }) ∧ InS (V.setCell ⟨r, 3, none⟩ (.string s)) g st ∧ Off (One g) w (V.setCell ⟨r, 3, none⟩ (.string s)) ∧ Box (V.setCell ⟨r, 3, none⟩ (.string s)) b t cs := by
  have k0 := (Off.refl (One r) V).set_ (p := ⟨r, 3, none⟩) (Or.inl rfl) (.string s)
  exact ⟨hx.wrote 3 _, hs.off k0 hx (by omega) (by decide), hk.behind k0 (fun i hi => Or.inr (by have : i = r := hi; omega)), k0.box hb (fun e => hbr e)⟩
theorem Box.frees {w : World} {g : Nat} {t : TypeId} {cs : Array Value} (h : Box w g t cs) : w.frozen? ⟨g, 0, none⟩ = false ∧ w.frozen? ⟨g, 1, none⟩ = false ∧ w.frozen? ⟨g, 2, none⟩ = false ∧ w.frozen? ⟨g, 3, none⟩ = false ∧ w.frozen? ⟨g, 4, none⟩ = false := ⟨h.free 0, h.free 1, h.free 2, h.free 3, h.free 4⟩

def z5 : Array Value := #[.int .u8 0, .int .u64 0, .int .u64 0, .string ⟨#[]⟩, .int .i64 0]
theorem Box.z5c {w : World} {b : Nat} {t : TypeId} (h : Box w b t z5) : w.cell? ⟨b, 0, none⟩ = some (.int .u8 0) ∧ w.cell? ⟨b, 1, none⟩ = some (.int .u64 0) ∧ w.cell? ⟨b, 2, none⟩ = some (.int .u64 0) ∧ w.cell? ⟨b, 3, none⟩ = some (.string ⟨#[]⟩) ∧
    w.cell? ⟨b, 4, none⟩ = some (.int .i64 0) := ⟨h.read 0, h.read 1, h.read 2, h.read 3, h.read 4⟩
set_option maxRecDepth 100000 in
set_option maxHeartbeats 4000000 in
theorem law_read (k : Nat) (hk : k < 256) (m : Int) (hm : m < 9223372036854775808) (g : Nat) (st : Option (List UInt8)) (w : World) (h : InS w g st) :
    Calls Tryd.prog 27 #[.pointer (some ⟨g, 0, none⟩), .int .u8 k, .int .i64 m] w fun e w' => e = .returned (rdTh k m (vOf (opR k m.toNat st))).val ∧ InS w' g (nxt (opR k m.toNat st)) ∧ Off (One g) w w' := by
  have hg := h.inside
  have L0 : Below w.heap.size w ((w.alloc (.cells z5 37)).alloc (.cells (thC ⟨k, 0, 0, ⟨#[]⟩, m⟩) 37)) := by repeat (first | exact Below.refl _ _ | apply Below.drew | apply below_drewN | refine Below.alloc ?_ (by simp; try omega) _ | refine Below.setCell ?_ (by simp; try omega) _)
  have E0 : Box ((w.alloc (.cells z5 37)).alloc (.cells (thC ⟨k, 0, 0, ⟨#[]⟩, m⟩) 37)) w.heap.size 37 z5 := (Box.made w _ _).past _
  have E1 : Box ((w.alloc (.cells z5 37)).alloc (.cells (thC ⟨k, 0, 0, ⟨#[]⟩, m⟩) 37)) (w.heap.size + 1) 37 (thC ⟨k, 0, 0, ⟨#[]⟩, m⟩) := by
    have := Box.made (w.alloc (.cells z5 37)) 37 (thC ⟨k, 0, 0, ⟨#[]⟩, m⟩)
    simpa using this
  have H0 := h.call L0
  have K0 := Off.of (S := One g) L0
  have hg0 : ¬ One g w.heap.size := fun e => by have : w.heap.size = g := e; omega
  have hg1 : ¬ One g (w.heap.size + 1) := fun e => by have : w.heap.size + 1 = g := e; omega
  obtain ⟨R, hR⟩ : ∃ R, vOf (opR k m.toNat st) = R := ⟨_, rfl⟩
  obtain ⟨N, hN⟩ : ∃ N, nxt (opR k m.toNat st) = N := ⟨_, rfl⟩
  have hk5' : k % 5 < 5 := Nat.mod_lt _ (by decide)
  have cO := fun n u => of_any n u
  rcases (show k % 5 = 0 ∨ k % 5 = 1 ∨ k % 5 = 2 ∨ k % 5 = 3 ∨ k % 5 = 4 by omega) with hk5 | hk5 | hk5 | hk5 | hk5
  · have c := in_byte _ g st H0
    obtain ⟨r1, r2⟩ := opR_0 (m := m.toNat) hk5 st
    rw [hR] at r1
    rw [hN] at r2
    rw [hR, hN]
    rw [← r2] at c
    have hl : bV (opB st) = R.l := by rw [r1]
    rw [hl] at c
    have hh : R.h = 0 := by rw [r1]
    have hs : ofL R.s = ⟨#[]⟩ := by rw [r1]; rfl
    have hw : IntKind.u64.wrap R.l = R.l := by
      rw [IntKind.wrap_u64, ← hl, bV_nN]
      have := nN_lt st
      omega
    have he := hideIt (show (⟨k, 0, R.l, ⟨#[]⟩, m⟩ : Th) = rdTh k m R by unfold rdTh; rw [hh, hs])
    clear hR hN r1 r2 hl hh hs
    obtain ⟨m1, m2, m3⟩ := kind_five k 0 hk5 hk
    go_enter Tryd.func27, Tryd.ntmps27
    go_upto_region 2 with fail
    change Code.wp _ _ _ _ ((w.alloc (.cells z5 37)).alloc (.cells (thC ⟨k, 0, 0, ⟨#[]⟩, m⟩) 37))
    generalize (w.alloc (.cells z5 37)).alloc (.cells (thC ⟨k, 0, 0, ⟨#[]⟩, m⟩) 37) = W at *
    go_upto_region 13 with (first
      | (go_at_call 16; refine c.mono ?_; rintro e w1 ⟨rfl, s1, k1⟩)
      | (go_at_call 29; refine (cO _ _).mono ?_; rintro e w2 ⟨rfl, j2⟩
         have E0 := (k1.box E0 hg0).call j2
         have E1 := (k1.box E1 hg1).call j2
         have D4 := s1.call j2
         have D5 := (K0.trans k1).call j2
         obtain ⟨u0, u1, u2, u3, u4⟩ := E1.thing
         obtain ⟨f0, f1, f2, f3, f4⟩ := E1.frees
         obtain ⟨f5, f6, f7, f8, f9⟩ := E0.frees
         have in1 := E1.inside
         have in0 := E0.inside
        )
      | fail)
    clear u0 u1 u2 u3 u4 f0 f1 f2 f3 f4 f5 f6 f7 f8 f9 in1 in0
    obtain ⟨D3, D4, D5, D2⟩ := two_puts E1 0 R.l (by omega) hg D4 D5 E0 (by omega)
    clear E0 E1
    generalize World.setCell (World.setCell _ _ _) _ _ = V at *
    rw [he.out] at D3
    obtain ⟨u0, u1, u2, u3, u4⟩ := D3.thing
    obtain ⟨f0, f1, f2, f3, f4⟩ := D3.frees
    obtain ⟨f5, f6, f7, f8, f9⟩ := D2.frees
    obtain ⟨v0, v1, v2, v3, v4⟩ := D2.z5c
    have in1 := D3.inside
    have in0 := D2.inside
    go_wp2
    obtain ⟨n1, n2, n3⟩ := read_told (x := rdTh k m R) D3 D2 hg D4 D5
    generalize World.setCell (World.setCell (World.setCell (World.setCell (World.setCell _ _ _) _ _) _ _) _ _) _ _ = Z at *
    obtain ⟨x0, x1, x2, x3, x4⟩ := n1.thing
    exact bodyPost_ret (v := (rdTh k m R).val) (by simp [results, Tryd.results27, go_sem, Th.val, x0, x1, x2, x3, x4]) rfl ⟨rfl, n2, n3⟩
  · have c := in_num _ g st H0
    obtain ⟨r1, r2⟩ := opR_1 (m := m.toNat) hk5 st
    rw [hR] at r1
    rw [hN] at r2
    rw [hR, hN]
    rw [← r2] at c
    have hl : lV (opN 8 st) = R.l := by rw [r1]
    rw [hl] at c
    have hh : R.h = 0 := by rw [r1]
    have hs : ofL R.s = ⟨#[]⟩ := by rw [r1]; rfl
    have he := hideIt (show (⟨k, 0, R.l, ⟨#[]⟩, m⟩ : Th) = rdTh k m R by unfold rdTh; rw [hh, hs])
    clear hR hN r1 r2 hl hh hs
    obtain ⟨m1, m2, m3⟩ := kind_five k 1 hk5 hk
    go_enter Tryd.func27, Tryd.ntmps27
    go_upto_region 2 with fail
    change Code.wp _ _ _ _ ((w.alloc (.cells z5 37)).alloc (.cells (thC ⟨k, 0, 0, ⟨#[]⟩, m⟩) 37))
    generalize (w.alloc (.cells z5 37)).alloc (.cells (thC ⟨k, 0, 0, ⟨#[]⟩, m⟩) 37) = W at *
    go_upto_region 13 with (first
      | (go_at_call 17; refine c.mono ?_; rintro e w1 ⟨rfl, s1, k1⟩)
      | (go_at_call 29; refine (cO _ _).mono ?_; rintro e w2 ⟨rfl, j2⟩
         have E0 := (k1.box E0 hg0).call j2
         have E1 := (k1.box E1 hg1).call j2
         have D4 := s1.call j2
         have D5 := (K0.trans k1).call j2
         obtain ⟨u0, u1, u2, u3, u4⟩ := E1.thing
         obtain ⟨f0, f1, f2, f3, f4⟩ := E1.frees
         obtain ⟨f5, f6, f7, f8, f9⟩ := E0.frees
         have in1 := E1.inside
         have in0 := E0.inside
        )
      | fail)
    clear u0 u1 u2 u3 u4 f0 f1 f2 f3 f4 f5 f6 f7 f8 f9 in1 in0
    obtain ⟨D3, D4, D5, D2⟩ := two_puts E1 0 R.l (by omega) hg D4 D5 E0 (by omega)
    clear E0 E1
    generalize World.setCell (World.setCell _ _ _) _ _ = V at *
    rw [he.out] at D3
    obtain ⟨u0, u1, u2, u3, u4⟩ := D3.thing
    obtain ⟨f0, f1, f2, f3, f4⟩ := D3.frees
    obtain ⟨f5, f6, f7, f8, f9⟩ := D2.frees
    obtain ⟨v0, v1, v2, v3, v4⟩ := D2.z5c
    have in1 := D3.inside
    have in0 := D2.inside
    go_wp2
    obtain ⟨n1, n2, n3⟩ := read_told (x := rdTh k m R) D3 D2 hg D4 D5
    generalize World.setCell (World.setCell (World.setCell (World.setCell (World.setCell _ _ _) _ _) _ _) _ _) _ _ = Z at *
    obtain ⟨x0, x1, x2, x3, x4⟩ := n1.thing
    exact bodyPost_ret (v := (rdTh k m R).val) (by simp [results, Tryd.results27, go_sem, Th.val, x0, x1, x2, x3, x4]) rfl ⟨rfl, n2, n3⟩
  · have c := in_wide _ g st H0
    obtain ⟨r1, r2⟩ := opR_2 (m := m.toNat) hk5 st
    rw [hR] at r1
    rw [hN] at r2
    rw [hR, hN]
    rw [← r2] at c
    have hl : lV (opN 16 st) = R.l := by rw [r1]
    have hh : hV (opN 16 st) = R.h := by rw [r1]
    rw [hl, hh] at c
    have hs : ofL R.s = ⟨#[]⟩ := by rw [r1]; rfl
    have he := hideIt (show (⟨k, R.h, R.l, ⟨#[]⟩, m⟩ : Th) = rdTh k m R by unfold rdTh; rw [hs])
    clear hR hN r1 r2 hl hh hs
    obtain ⟨m1, m2, m3⟩ := kind_five k 2 hk5 hk
    go_enter Tryd.func27, Tryd.ntmps27
    go_upto_region 2 with fail
    change Code.wp _ _ _ _ ((w.alloc (.cells z5 37)).alloc (.cells (thC ⟨k, 0, 0, ⟨#[]⟩, m⟩) 37))
    generalize (w.alloc (.cells z5 37)).alloc (.cells (thC ⟨k, 0, 0, ⟨#[]⟩, m⟩) 37) = W at *
    go_upto_region 13 with (first
      | (go_at_call 18; refine c.mono ?_; rintro e w1 ⟨rfl, s1, k1⟩
         have E0 := (k1.box E0 hg0)
         have E1 := (k1.box E1 hg1)
         have D4 := s1
         have D5 := (K0.trans k1)
         obtain ⟨u0, u1, u2, u3, u4⟩ := E1.thing
         obtain ⟨f0, f1, f2, f3, f4⟩ := E1.frees
         obtain ⟨f5, f6, f7, f8, f9⟩ := E0.frees
         have in1 := E1.inside
         have in0 := E0.inside
        )
      | fail)
    clear u0 u1 u2 u3 u4 f0 f1 f2 f3 f4 f5 f6 f7 f8 f9 in1 in0
    obtain ⟨D3, D4, D5, D2⟩ := two_puts E1 R.h R.l (by omega) hg D4 D5 E0 (by omega)
    clear E0 E1
    generalize World.setCell (World.setCell _ _ _) _ _ = V at *
    rw [he.out] at D3
    obtain ⟨u0, u1, u2, u3, u4⟩ := D3.thing
    obtain ⟨f0, f1, f2, f3, f4⟩ := D3.frees
    obtain ⟨f5, f6, f7, f8, f9⟩ := D2.frees
    obtain ⟨v0, v1, v2, v3, v4⟩ := D2.z5c
    have in1 := D3.inside
    have in0 := D2.inside
    go_wp2
    obtain ⟨n1, n2, n3⟩ := read_told (x := rdTh k m R) D3 D2 hg D4 D5
    generalize World.setCell (World.setCell (World.setCell (World.setCell (World.setCell _ _ _) _ _) _ _) _ _) _ _ = Z at *
    obtain ⟨x0, x1, x2, x3, x4⟩ := n1.thing
    exact bodyPost_ret (v := (rdTh k m R).val) (by simp [results, Tryd.results27, go_sem, Th.val, x0, x1, x2, x3, x4]) rfl ⟨rfl, n2, n3⟩
  · have c := in_flag _ g st H0
    obtain ⟨r1, r2⟩ := opR_3 (m := m.toNat) hk5 st
    rw [hR] at r1
    rw [hN] at r2
    rw [hR, hN]
    rw [← r2] at c
    have hh : R.h = 0 := by rw [r1]
    have hs : ofL R.s = ⟨#[]⟩ := by rw [r1]; rfl
    cases hf : fV (opF st) with
    | true =>
      rw [hf] at c
      have hl : (1 : Int) = R.l := by rw [r1, hf]; rfl
      have he := hideIt (show (⟨k, 0, R.l, ⟨#[]⟩, m⟩ : Th) = rdTh k m R by unfold rdTh; rw [hh, hs])
      have cO1 : ∀ u, Calls Tryd.prog 29 #[.int .u64 1] u (Tells (.agg #[.int .u64 0, .int .u64 R.l]) u.heap.size u) := fun u => by rw [← hl]; exact cO 1 u
      clear hR hN r1 r2 hl hh hs cO hf
      obtain ⟨m1, m2, m3⟩ := kind_five k 3 hk5 hk
      go_enter Tryd.func27, Tryd.ntmps27
      go_upto_region 2 with fail
      change Code.wp _ _ _ _ ((w.alloc (.cells z5 37)).alloc (.cells (thC ⟨k, 0, 0, ⟨#[]⟩, m⟩) 37))
      generalize (w.alloc (.cells z5 37)).alloc (.cells (thC ⟨k, 0, 0, ⟨#[]⟩, m⟩) 37) = W at *
      go_upto_region 13 with (first
        | (go_at_call 19; refine c.mono ?_; rintro e w1 ⟨rfl, s1, k1⟩)
        | (go_at_call 29; refine (cO1 _).mono ?_; rintro e w2 ⟨rfl, j2⟩
           have E0 := (k1.box E0 hg0).call j2
           have E1 := (k1.box E1 hg1).call j2
           have D4 := s1.call j2
           have D5 := (K0.trans k1).call j2
           obtain ⟨u0, u1, u2, u3, u4⟩ := E1.thing
           obtain ⟨f0, f1, f2, f3, f4⟩ := E1.frees
           obtain ⟨f5, f6, f7, f8, f9⟩ := E0.frees
           have in1 := E1.inside
           have in0 := E0.inside
          )
        | fail)
      clear u0 u1 u2 u3 u4 f0 f1 f2 f3 f4 f5 f6 f7 f8 f9 in1 in0
      obtain ⟨D3, D4, D5, D2⟩ := two_puts E1 0 R.l (by omega) hg D4 D5 E0 (by omega)
      clear E0 E1
      generalize World.setCell (World.setCell _ _ _) _ _ = V at *
      rw [he.out] at D3
      obtain ⟨u0, u1, u2, u3, u4⟩ := D3.thing
      obtain ⟨f0, f1, f2, f3, f4⟩ := D3.frees
      obtain ⟨f5, f6, f7, f8, f9⟩ := D2.frees
      obtain ⟨v0, v1, v2, v3, v4⟩ := D2.z5c
      have in1 := D3.inside
      have in0 := D2.inside
      go_wp2
      obtain ⟨n1, n2, n3⟩ := read_told (x := rdTh k m R) D3 D2 hg D4 D5
      generalize World.setCell (World.setCell (World.setCell (World.setCell (World.setCell _ _ _) _ _) _ _) _ _) _ _ = Z at *
      obtain ⟨x0, x1, x2, x3, x4⟩ := n1.thing
      exact bodyPost_ret (v := (rdTh k m R).val) (by simp [results, Tryd.results27, go_sem, Th.val, x0, x1, x2, x3, x4]) rfl ⟨rfl, n2, n3⟩
    | false =>
      rw [hf] at c
      have hl : R.l = 0 := by rw [r1, hf]; rfl
      have he := hideIt (show (⟨k, 0, 0, ⟨#[]⟩, m⟩ : Th) = rdTh k m R by unfold rdTh; rw [hh, hs, hl])
      clear hR hN r1 r2 hl hh hs cO hf
      obtain ⟨m1, m2, m3⟩ := kind_five k 3 hk5 hk
      go_enter Tryd.func27, Tryd.ntmps27
      go_upto_region 2 with fail
      change Code.wp _ _ _ _ ((w.alloc (.cells z5 37)).alloc (.cells (thC ⟨k, 0, 0, ⟨#[]⟩, m⟩) 37))
      generalize (w.alloc (.cells z5 37)).alloc (.cells (thC ⟨k, 0, 0, ⟨#[]⟩, m⟩) 37) = W at *
      go_upto_region 13 with (first
        | (go_at_call 19; refine c.mono ?_; rintro e w1 ⟨rfl, s1, k1⟩)
        | fail)
      have D2 := k1.box E0 hg0
      have D3 := k1.box E1 hg1
      have D4 := s1
      have D5 := K0.trans k1
      clear E0 E1
      rw [he.out] at D3
      obtain ⟨u0, u1, u2, u3, u4⟩ := D3.thing
      obtain ⟨f0, f1, f2, f3, f4⟩ := D3.frees
      obtain ⟨f5, f6, f7, f8, f9⟩ := D2.frees
      obtain ⟨v0, v1, v2, v3, v4⟩ := D2.z5c
      have in1 := D3.inside
      have in0 := D2.inside
      go_wp2
      obtain ⟨n1, n2, n3⟩ := read_told (x := rdTh k m R) D3 D2 hg D4 D5
      generalize World.setCell (World.setCell (World.setCell (World.setCell (World.setCell _ _ _) _ _) _ _) _ _) _ _ = Z at *
      obtain ⟨x0, x1, x2, x3, x4⟩ := n1.thing
      exact bodyPost_ret (v := (rdTh k m R).val) (by simp [results, Tryd.results27, go_sem, Th.val, x0, x1, x2, x3, x4]) rfl ⟨rfl, n2, n3⟩
  · have c := in_text_any m hm _ g st H0
    obtain ⟨r1, r3, r4, r2⟩ := opR_4 (m := m.toNat) hk5 st
    rw [hR] at r1 r3 r4
    rw [hN] at r2
    rw [hR, hN]
    rw [← r2, ← r4] at c
    have he := hideIt (show (⟨k, 0, 0, ofL R.s, m⟩ : Th) = rdTh k m R by unfold rdTh; rw [r1, r3])
    clear hR hN r1 r2 r3 r4 cO
    generalize ofL R.s = S at *
    obtain ⟨m1, m2, m3⟩ := kind_five k 4 hk5 hk
    go_enter Tryd.func27, Tryd.ntmps27
    go_upto_region 2 with fail
    change Code.wp _ _ _ _ ((w.alloc (.cells z5 37)).alloc (.cells (thC ⟨k, 0, 0, ⟨#[]⟩, m⟩) 37))
    generalize (w.alloc (.cells z5 37)).alloc (.cells (thC ⟨k, 0, 0, ⟨#[]⟩, m⟩) 37) = W at *
    go_upto_region 13 with (first
      | (go_at_call 20; refine c.mono ?_; rintro e w1 ⟨rfl, s1, k1⟩
         have E0 := (k1.box E0 hg0)
         have E1 := (k1.box E1 hg1)
         have D4 := s1
         have D5 := (K0.trans k1)
         obtain ⟨u0, u1, u2, u3, u4⟩ := E1.thing
         obtain ⟨f0, f1, f2, f3, f4⟩ := E1.frees
         obtain ⟨f5, f6, f7, f8, f9⟩ := E0.frees
         have in1 := E1.inside
         have in0 := E0.inside
        )
      | fail)
    clear u0 u1 u2 u3 u4 f0 f1 f2 f3 f4 f5 f6 f7 f8 f9 in1 in0
    obtain ⟨D3, D4, D5, D2⟩ := one_put E1 S (by omega) hg D4 D5 E0 (by omega)
    clear E0 E1
    generalize World.setCell _ _ _ = V at *
    rw [he.out] at D3
    obtain ⟨u0, u1, u2, u3, u4⟩ := D3.thing
    obtain ⟨f0, f1, f2, f3, f4⟩ := D3.frees
    obtain ⟨f5, f6, f7, f8, f9⟩ := D2.frees
    obtain ⟨v0, v1, v2, v3, v4⟩ := D2.z5c
    have in1 := D3.inside
    have in0 := D2.inside
    go_wp2
    obtain ⟨n1, n2, n3⟩ := read_told (x := rdTh k m R) D3 D2 hg D4 D5
    generalize World.setCell (World.setCell (World.setCell (World.setCell (World.setCell _ _ _) _ _) _ _) _ _) _ _ = Z at *
    obtain ⟨x0, x1, x2, x3, x4⟩ := n1.thing
    exact bodyPost_ret (v := (rdTh k m R).val) (by simp [results, Tryd.results27, go_sem, Th.val, x0, x1, x2, x3, x4]) rfl ⟨rfl, n2, n3⟩
end Go.Proofs.YtakhdhbalmcohaaDoor
