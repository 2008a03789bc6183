/-
  A set of slots of the call's own, and its map of accounts by their Ids.
-/
import Derived.Test.YtngofpdpangajaaDoorRows
import Derived.Test.YtngofpdpangajaaDoorW11Set
import Derived.Test.YtngofpdpangajaaDoorD12Acc
import Derived.Maps.OwnSet
namespace Go.Proofs.YtngofpdpangajaaDoor
set_option linter.unusedVariables false
set_option linter.unusedSimpArgs false
set_option maxRecDepth 10000
open Go.RowKit Go.Maps Go.WideMaps

theorem slotset_law : Keyed Tryd.prog 34 := int_keyed Tryd.underlying34
theorem und_taken : Tryd.prog.underlying 77 = some (.map 34 81) := Tryd.underlying77
theorem word_wf {x : Int} (h : Word x) : (Lit.int .u64 x).wf = true := by
  obtain ⟨h1, h2⟩ := h
  simp [Lit.wf, IntKind.min, IntKind.max, IntKind.signed, IntKind.bits]
  omega
/-- Block b is the set of these slots. -/
def SlotSet (w : World) (b : Nat) (ks : List Int) : Prop := w.ownsMap Tryd.prog 34 (unitElem (H := Unit)) b ks.length (setOf (.agg []) (ks.map (Lit.int .u64)))
section
variable {w w' : World} {b : Nat} {ks : List Int}
theorem SlotSet.made (w : World) : SlotSet (w.alloc (.map #[] 0)) w.heap.size [] := World.ownsMap_made _ _ _ _
theorem SlotSet.lt (h : SlotSet w b ks) : b < w.heap.size := World.ownsMap.lt h
theorem SlotSet.kept {row : Option Nat} (h : SlotSet w b ks) (hg : w.grownBy w' row) (hne : some b ≠ row) : SlotSet w' b ks := World.ownsMap.kept h hg hne
theorem SlotSet.alloc (h : SlotSet w b ks) (o : Obj) : SlotSet (w.alloc o) b ks := World.ownsMap.alloc h o
theorem SlotSet.drew (h : SlotSet w b ks) : SlotSet w.drew b ks := h
theorem SlotSet.same (h : SlotSet w b ks) (e : w'.heap[b]? = w.heap[b]?) : SlotSet w' b ks := by
  obtain ⟨es, clock, hb, r⟩ := h
  exact ⟨es, clock, e.trans hb, r⟩
theorem SlotSet.call (h : SlotSet w b ks) (hb : Below w.heap.size w w') : SlotSet w' b ks := h.same (hb.block b h.lt)
theorem SlotSet.set_ (h : SlotSet w b ks) {a : Addr} (ha : b ≠ a.block) (u : Value) : SlotSet (w.setCell a u) b ks := World.ownsMap.setCell h ha u
theorem keyInts (ks : List Int) : ∀ x ∈ ks.map (Lit.int .u64), WideAt.IsKeyLit x := fun x hx => by
  obtain ⟨s, -, rfl⟩ := List.mem_map.1 hx
  trivial
theorem slotset_has (ks : List Int) (k : Int) : Maps.has (setOf (H := Unit) (.agg []) (ks.map (Lit.int .u64))) (.int .u64 k) = decide (k ∈ ks) := by
  rw [has_setOf _ _ _ (keyInts ks), List.any_map]
  induction ks with
  | nil => rfl
  | cons x r ih =>
    rw [List.any_cons, ih]
    by_cases h : x = k
    · subst h
      have : (Lit.int .u64 x).sameKey (Lit.int .u64 x) = true := WideAt.sameKey_self (by trivial)
      simp [this]
    · have : (Lit.int .u64 x).sameKey (Lit.int .u64 k) = false := sameKey_ne (fun e => h (by injection e))
      have h2 : k ≠ x := fun e => h e.symm
      simp [this, h2]
/-- 'v, ok := m[k]' at the operation. -/
theorem wpl_slot_look {ops : Array Oper} {rest : List Oper} {o : Oper} {a : Act} {Q : Exit → Act → World → Prop} (hg : o.guard = none) (m x : Operand) (t : TypeId) (hop : o.op = Op.lookup t m x true)
    (ht : Tryd.prog.underlying t = some (.map 34 81)) (hm : a.eval m = .map (some b)) (hown : SlotSet w b ks) (k : Int) (hk : Word k) (hx : a.eval x = .int .u64 k) (q : Bool) (hq : decide (k ∈ ks) = q)
    (hK : wpList Tryd.prog ops Q rest (a.put o.dst (.tuple #[.agg #[], .bool q])) w) : wpList Tryd.prog ops Q (o :: rest) a w := by
  refine wpList_lookup_own_unit w hg m x t hop 34 81 slotset_law ht (idset_zero w) b _ _ hm hown (.int .u64 k) _ hx (keyOf_int_mk Tryd.underlying34 (word_wf hk)) ?_
  rw [slotset_has, hq]
  exact hK
theorem SlotSet.put (h : SlotSet w b ks) (k : Int) (hk : Word k) (hn : ks.length ≤ 1000000000) (t : TypeId) (ht : Tryd.prog.underlying t = some (.map 34 81)) :
    ∃ w', (Instr.mapUpdate t (.map (some b)) (.int .u64 k) (.agg #[])).run Tryd.prog w = .ok () w' ∧ SlotSet w' b (ks ++ [k]) ∧ w.grownBy w' (some b) := by
  obtain ⟨w', hr, hown, hturn⟩ := World.ownsMap.store h slotset_law ht (by unfold maxLen; omega) (keyOf_int_mk Tryd.underlying34 (word_wf hk)) unitElem_mk
  refine ⟨w', hr, ?_, hturn.grown⟩
  unfold SlotSet
  rw [List.map_append, List.map_cons, List.map_nil, setOf_snoc, List.length_append]
  exact hown
/-- 'm[k] = struct{}{}' at the operation. -/
theorem wpl_slot_put {ops : Array Oper} {rest : List Oper} {o : Oper} {a : Act} {Q : Exit → Act → World → Prop} (hg : o.guard = none) (m x v : Operand) (t : TypeId) (hop : o.op = Op.mapUpdate t m x v)
    (ht : Tryd.prog.underlying t = some (.map 34 81)) (hm : a.eval m = .map (some b)) (hown : SlotSet w b ks) (k : Int) (hk : Word k) (hx : a.eval x = .int .u64 k) (hv : a.eval v = .agg #[]) (hn : ks.length ≤ 1000000000)
    (hK : ∀ w', SlotSet w' b (ks ++ [k]) → w.grownBy w' (some b) → wpList Tryd.prog ops Q rest (a.put o.dst undef) w') : wpList Tryd.prog ops Q (o :: rest) a w := by
  refine wpList_plain hg fun K' hK' => ?_
  obtain ⟨w', hrun, r1, r2⟩ := hown.put k hk hn t ht
  unfold Oper.wp
  simp [execOp, hop, hm, hx, hv, hrun, Result.andThen]
  exact hK' _ _ (hK w' r1 r2)
end

/-- How an account reads. -/
def acD (x : Ac) : DataW Unit := .agg [.lit (.string x.id.data.toList), .lit (.int .u64 x.h), .lit (.int .u64 x.l), .lit (.string x.salt.data.toList), .lit (.int .u64 x.slot)]
def acElem : Value → Option (DataW Unit × List MemPlace)
  | .agg cs => match cs.toList with
    | [.string i, .int .u64 h, .int .u64 l, .string s, .int .u64 n] => some (acD ⟨i, h, l, s, n⟩, [])
    | _ => none
  | _ => none
theorem acElem_mk (x : Ac) : acElem x.val = some (acD x, []) := rfl
theorem acElem_inv {v : Value} {x : Ac} {ps : List MemPlace} (h : acElem v = some (acD x, ps)) : v = x.val := by
  unfold acElem at h
  split at h
  · rename_i cs
    split at h
    · rename_i i hh l s n heq
      have h := congrArg Prod.fst (Option.some.inj h)
      simp only [acD, DataW.agg.injEq, List.cons.injEq, DataW.lit.injEq, Lit.string.injEq, Lit.int.injEq, and_true, true_and] at h
      obtain ⟨e1, e2, e3, e4, e5⟩ := h
      have a1 := ba_ext e1
      have a4 := ba_ext e4
      subst a1 a4 e2 e3 e5
      have : cs = #[.string x.id, .int .u64 x.h, .int .u64 x.l, .string x.salt, .int .u64 x.slot] := Array.ext' heq
      rw [this]
      rfl
    · cases h
  · cases h
/-- The accounts by their Ids. -/
def accD (l : List Ac) : DataW Unit := l.foldl (fun D a => D.put (.string (keyA a)) (acD a)) (.map [])
theorem accD_snoc (l : List Ac) (a : Ac) : accD (l ++ [a]) = (accD l).put (.string (keyA a)) (acD a) := by simp [accD, List.foldl_append]
theorem firstA_snoc (p : Ac → Bool) (l : List Ac) (a : Ac) : firstA p (l ++ [a]) = if (firstA p l).2 then firstA p l else if p a then (a, true) else (Ac.zero, false) := by
  induction l with
  | nil => simp [firstA]
  | cons x r ih =>
    rw [List.cons_append]
    unfold firstA
    by_cases h : p x = true
    · simp [h]
    · simp only [h, if_false, Bool.false_eq_true]
      exact ih
theorem snoc_ind {α : Type} {p : List α → Prop} (h0 : p []) (h1 : ∀ l a, p l → p (l ++ [a])) (l : List α) : p l := by
  have key : ∀ l : List α, p l.reverse := by
    intro l
    induction l with
    | nil => exact h0
    | cons a r ih => rw [List.reverse_cons]; exact h1 _ _ ih
  have := key l.reverse
  rwa [List.reverse_reverse] at this
theorem accD_map (l : List Ac) : IsMap (accD l) := by
  refine snoc_ind (p := fun l => IsMap (accD l)) ?_ ?_ l
  · exact isMap_empty
  · intro l a ih; rw [accD_snoc]; exact ih.put _ _
theorem accD_find {l : List Ac} (hd : (l.map keyA).Nodup) (k : List UInt8) : Maps.has (accD l) (.string k) = (findA l k).2 ∧ (accD l).atKey (.string k) (acD Ac.zero) = acD (findA l k).1 := by
  revert hd
  refine snoc_ind (p := fun l => (l.map keyA).Nodup → Maps.has (accD l) (.string k) = (findA l k).2 ∧ (accD l).atKey (.string k) (acD Ac.zero) = acD (findA l k).1) ?_ ?_ l
  · intro _; exact ⟨rfl, rfl⟩
  · intro l a ih hd
    rw [List.map_append, List.nodup_append] at hd
    obtain ⟨h1, h2⟩ := ih hd.1
    unfold findA at h1 h2 ⊢
    rw [accD_snoc, firstA_snoc]
    by_cases e : keyA a = k
    · subst e
      have hn : (firstA (fun a_1 => decide (keyA a_1 = keyA a)) l).2 = false := by
        rw [firstA_has, List.any_eq_false]
        intro x hx he
        have he : keyA x = keyA a := by simpa using he
        exact hd.2.2 (keyA x) (List.mem_map_of_mem hx) (keyA a) (by simp) he
      rw [hn, has_put_same (accD_map l) (by trivial), atKey_put_same (accD_map l) (by trivial)]
      simp
    · have hne : Lit.string k ≠ Lit.string (keyA a) := fun he => e (by injection he with he; exact he.symm)
      rw [has_put_other hne, atKey_put_other hne, h1, h2]
      cases hb : (firstA (fun a => decide (keyA a = k)) l).2 with
      | true => simp [hb]
      | false =>
        rw [firstA_no hb]
        simp [e]
/-- Block b is the map of these accounts. -/
def AccMap (w : World) (b : Nat) (l : List Ac) : Prop := w.ownsMap Tryd.prog 9 acElem b l.length (accD l)
section
variable {w w' : World} {b : Nat} {l : List Ac}
theorem und_accs : Tryd.prog.underlying 70 = some (.map 9 38) := Tryd.underlying70
theorem AccMap.made (w : World) : AccMap (w.alloc (.map #[] 0)) w.heap.size [] := World.ownsMap_made _ _ _ _
theorem AccMap.lt (h : AccMap w b l) : b < w.heap.size := World.ownsMap.lt h
theorem AccMap.kept {row : Option Nat} (h : AccMap w b l) (hg : w.grownBy w' row) (hne : some b ≠ row) : AccMap w' b l := World.ownsMap.kept h hg hne
theorem AccMap.alloc (h : AccMap w b l) (o : Obj) : AccMap (w.alloc o) b l := World.ownsMap.alloc h o
theorem AccMap.same (h : AccMap w b l) (e : w'.heap[b]? = w.heap[b]?) : AccMap w' b l := by
  obtain ⟨es, clock, hb, r⟩ := h
  exact ⟨es, clock, e.trans hb, r⟩
theorem AccMap.call (h : AccMap w b l) (hb : Below w.heap.size w w') : AccMap w' b l := h.same (hb.block b h.lt)
theorem acc_zero (w : World) : (zeroValue 38).run Tryd.prog w = .ok Ac.zero.val w := by kernel_rfl
/-- 'v, ok := m[k]' at the operation. -/
theorem wpl_acc_look {ops : Array Oper} {rest : List Oper} {o : Oper} {a : Act} {Q : Exit → Act → World → Prop} (hg : o.guard = none) (m x : Operand) (t : TypeId) (hop : o.op = Op.lookup t m x true)
    (ht : Tryd.prog.underlying t = some (.map 9 38)) (hm : a.eval m = .map (some b)) (hown : AccMap w b l) (hd : (l.map keyA).Nodup) (s : ByteArray) (hx : a.eval x = .string s) (hs : s.size ≤ 1000000000) (r : Ac) (q : Bool) (hq : findA l s.data.toList = (r, q))
    (hK : wpList Tryd.prog ops Q rest (a.put o.dst (.tuple #[.agg #[.string r.id, .int .u64 r.h, .int .u64 r.l, .string r.salt, .int .u64 r.slot], .bool q])) w) : wpList Tryd.prog ops Q (o :: rest) a w := by
  refine wpList_plain hg fun K' hK' => ?_
  obtain ⟨v, ps, hrun, hv⟩ := World.ownsMap.look_ok hown idset_law ht (acc_zero w) (acElem_mk Ac.zero) (WideMaps.keyOf_string_mk Tryd.underlying9 (s := s) (by unfold maxLen; omega))
  obtain ⟨e1, e2⟩ := accD_find hd s.data.toList
  rw [hq] at e1 e2
  rw [e1] at hrun
  rw [e2] at hv
  rw [acElem_inv hv] at hrun
  unfold Oper.wp
  simp [execOp, hop, hm, hx, hrun, Result.andThen]
  exact hK' _ _ hK
theorem AccMap.put (h : AccMap w b l) (x : Ac) (hz : x.id.size ≤ 1000000000) (hn : l.length ≤ 1000000000) (t : TypeId) (ht : Tryd.prog.underlying t = some (.map 9 38)) :
    ∃ w', (Instr.mapUpdate t (.map (some b)) (.string x.id) x.val).run Tryd.prog w = .ok () w' ∧ AccMap w' b (l ++ [x]) ∧ w.grownBy w' (some b) := by
  obtain ⟨w', hr, hown, hturn⟩ := World.ownsMap.store h idset_law ht (by unfold maxLen; omega) (WideMaps.keyOf_string_mk Tryd.underlying9 (s := x.id) (by unfold maxLen; omega)) (acElem_mk x)
  refine ⟨w', hr, ?_, hturn.grown⟩
  unfold AccMap
  rw [accD_snoc, List.length_append]
  exact hown
/-- 'm[k] = v' at the operation. -/
theorem wpl_acc_put {ops : Array Oper} {rest : List Oper} {o : Oper} {a : Act} {Q : Exit → Act → World → Prop} (hg : o.guard = none) (m x v : Operand) (t : TypeId) (hop : o.op = Op.mapUpdate t m x v)
    (ht : Tryd.prog.underlying t = some (.map 9 38)) (hm : a.eval m = .map (some b)) (hown : AccMap w b l) (r : Ac) (hz : r.id.size ≤ 1000000000) (hx : a.eval x = .string r.id) (hv : a.eval v = r.val) (hn : l.length ≤ 1000000000)
    (hK : ∀ w', AccMap w' b (l ++ [r]) → w.grownBy w' (some b) → wpList Tryd.prog ops Q rest (a.put o.dst undef) w') : wpList Tryd.prog ops Q (o :: rest) a w := by
  refine wpList_plain hg fun K' hK' => ?_
  obtain ⟨w', hrun, r1, r2⟩ := hown.put r hz hn t ht
  unfold Oper.wp
  simp [execOp, hop, hm, hx, hv, hrun, Result.andThen]
  exact hK' _ _ (hK w' r1 r2)
end
end Go.Proofs.YtngofpdpangajaaDoor
