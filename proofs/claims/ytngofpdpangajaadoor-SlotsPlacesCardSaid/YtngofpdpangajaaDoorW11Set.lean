/-
  A set of texts of the call's own: a map of empty structs.
-/
import Derived.Test.YtngofpdpangajaaDoorRows
import Derived.Test.YtngofpdpangajaaDoorW0Words
import Derived.Maps.OwnSet
namespace Go.Proofs.YtngofpdpangajaaDoor
set_option linter.unusedVariables false
set_option linter.unusedSimpArgs false
set_option maxRecDepth 10000
open Go.RowKit Go.Maps Go.WideMaps

theorem idset_law : Keyed Tryd.prog 9 := string_keyed Tryd.underlying9
theorem idset_zero (w : World) : (zeroValue 81).run Tryd.prog w = .ok (.agg #[]) w := by kernel_rfl
/-- Block b is the set of these texts. -/
def IdSet (w : World) (b : Nat) (ids : List (List UInt8)) : Prop := w.ownsMap Tryd.prog 9 (unitElem (H := Unit)) b ids.length (setOf (.agg []) (ids.map Lit.string))
section
variable {w w' : World} {b : Nat} {ids : List (List UInt8)}
theorem IdSet.made (w : World) : IdSet (w.alloc (.map #[] 0)) w.heap.size [] := World.ownsMap_made _ _ _ _
theorem IdSet.lt (h : IdSet w b ids) : b < w.heap.size := World.ownsMap.lt h
theorem IdSet.kept {row : Option Nat} (h : IdSet w b ids) (hg : w.grownBy w' row) (hne : some b ≠ row) : IdSet w' b ids := World.ownsMap.kept h hg hne
theorem IdSet.alloc (h : IdSet w b ids) (o : Obj) : IdSet (w.alloc o) b ids := World.ownsMap.alloc h o
theorem IdSet.drew (h : IdSet w b ids) : IdSet w.drew b ids := h
theorem IdSet.same (h : IdSet w b ids) (e : w'.heap[b]? = w.heap[b]?) : IdSet w' b ids := by
  obtain ⟨es, clock, hb, r⟩ := h
  exact ⟨es, clock, e.trans hb, r⟩
theorem IdSet.call (h : IdSet w b ids) (hb : Below w.heap.size w w') : IdSet w' b ids := h.same (hb.block b h.lt)
theorem IdSet.set_ (h : IdSet w b ids) {a : Addr} (ha : b ≠ a.block) (u : Value) : IdSet (w.setCell a u) b ids := World.ownsMap.setCell h ha u
theorem keyLits (ids : List (List UInt8)) : ∀ x ∈ ids.map Lit.string, WideAt.IsKeyLit x := fun x hx => by
  obtain ⟨s, -, rfl⟩ := List.mem_map.1 hx
  trivial
theorem idset_has (ids : List (List UInt8)) (k : List UInt8) : Maps.has (setOf (H := Unit) (.agg []) (ids.map Lit.string)) (.string k) = decide (k ∈ ids) := by
  rw [has_setOf _ _ _ (keyLits ids), List.any_map]
  induction ids with
  | nil => rfl
  | cons x r ih =>
    rw [List.any_cons, ih]
    by_cases h : x = k
    · subst h
      have : (Lit.string x).sameKey (Lit.string x) = true := WideAt.sameKey_self (by trivial)
      simp [this]
    · have : (Lit.string x).sameKey (Lit.string k) = false := sameKey_ne (fun e => h (by injection e))
      have h2 : k ≠ x := fun e => h e.symm
      simp [this, h2]
theorem IdSet.look (h : IdSet w b ids) (s : ByteArray) (hs : s.size ≤ 1000000000) (t : TypeId) (ht : Tryd.prog.underlying t = some (.map 9 81)) :
    (Instr.lookup t (.map (some b)) (.string s) true).run Tryd.prog w = .ok (.tuple #[.agg #[], .bool (decide (s.data.toList ∈ ids))]) w := by
  obtain ⟨v, ps, hr, hv⟩ := World.ownsMap.look_ok h idset_law ht (idset_zero w) unitElem_mk (WideMaps.keyOf_string_mk Tryd.underlying9 (s := s) (by unfold maxLen; omega))
  obtain ⟨rfl, -⟩ := unitElem_inv hv
  rw [idset_has] at hr
  exact hr
theorem IdSet.put (h : IdSet w b ids) (s : ByteArray) (hs : s.size ≤ 1000000000) (hn : ids.length ≤ 1000000000) (t : TypeId) (ht : Tryd.prog.underlying t = some (.map 9 81)) :
    ∃ w', (Instr.mapUpdate t (.map (some b)) (.string s) (.agg #[])).run Tryd.prog w = .ok () w' ∧ IdSet w' b (ids ++ [s.data.toList]) ∧ w.grownBy w' (some b) := by
  obtain ⟨w', hr, hown, hturn⟩ := World.ownsMap.store h idset_law ht (by unfold maxLen; omega) (WideMaps.keyOf_string_mk Tryd.underlying9 (s := s) (by unfold maxLen; omega)) unitElem_mk
  refine ⟨w', hr, ?_, hturn.grown⟩
  unfold IdSet
  rw [List.map_append, List.map_cons, List.map_nil, setOf_snoc, List.length_append]
  exact hown
theorem addKey_new (acc : List Lit) (x : Lit) (h : acc.any (fun y => y.sameKey x) = false) : addKey acc x = acc ++ [x] := by unfold addKey; rw [h]; rfl
theorem idset_size (ids : List (List UInt8)) (hd : ids.Nodup) : Maps.size (setOf (H := Unit) (.agg []) (ids.map Lit.string)) = ids.length := by
  rw [size_setOf _ _ (keyLits ids)]
  have key : ∀ (l acc : List (List UInt8)), (acc ++ l).Nodup → ((l.map Lit.string).foldl addKey (acc.map Lit.string)).length = acc.length + l.length := by
    intro l
    induction l with
    | nil => intro acc _; simp
    | cons x r ih =>
      intro acc hn
      have h1 : (acc.map Lit.string).any (fun y => y.sameKey (Lit.string x)) = false := by
        rw [List.any_map]
        refine List.any_eq_false.2 fun y hy => ?_
        have hne : y ≠ x := fun e => by
          subst e
          rw [List.nodup_append] at hn
          exact hn.2.2 y hy y (by simp) rfl
        rw [show ((fun y : Lit => y.sameKey (Lit.string x)) ∘ Lit.string) y = (Lit.string y).sameKey (Lit.string x) from rfl, sameKey_ne (fun e => hne (by injection e))]
        decide
      rw [List.map_cons, List.foldl_cons, addKey_new _ _ h1]
      have h2 := ih (acc ++ [x]) (by simpa using hn)
      rw [List.map_append] at h2
      rw [show (acc.map Lit.string ++ [Lit.string x]) = acc.map Lit.string ++ [x].map Lit.string from rfl, h2]
      simp
      omega
  have := key ids [] (by simpa using hd)
  simpa using this
theorem IdSet.len (h : IdSet w b ids) (hd : ids.Nodup) (t : TypeId) (ht : Tryd.prog.underlying t = some (.map 9 81)) (ty : TypeId) :
    (Builtin.len_ #[t] ty #[.map (some b)]).run Tryd.prog w = .ok (.int .i64 (ids.length : Int)) w := by
  have := World.ownsMap.len h ht ty
  rw [idset_size ids hd] at this
  exact this
/-- 'v, ok := m[k]' at the operation. -/
theorem wpl_idset_look {ops : Array Oper} {rest : List Oper} {o : Oper} {a : Act} {Q : Exit → Act → World → Prop} (hg : o.guard = none) (m x : Operand) (t : TypeId) (hop : o.op = Op.lookup t m x true)
    (ht : Tryd.prog.underlying t = some (.map 9 81)) (hm : a.eval m = .map (some b)) (hown : IdSet w b ids) (s : ByteArray) (hx : a.eval x = .string s) (hs : s.size ≤ 1000000000) (q : Bool) (hq : decide (s.data.toList ∈ ids) = q)
    (hK : wpList Tryd.prog ops Q rest (a.put o.dst (.tuple #[.agg #[], .bool q])) w) : wpList Tryd.prog ops Q (o :: rest) a w := by
  refine wpList_lookup_own_unit w hg m x t hop 9 81 idset_law ht (idset_zero w) b _ _ hm hown (.string s) _ hx (WideMaps.keyOf_string_mk Tryd.underlying9 (s := s) (by unfold maxLen; omega)) ?_
  rw [idset_has, hq]
  exact hK
/-- 'm[k] = struct{}{}' at the operation. -/
theorem wpl_idset_put {ops : Array Oper} {rest : List Oper} {o : Oper} {a : Act} {Q : Exit → Act → World → Prop} (hg : o.guard = none) (m x v : Operand) (t : TypeId) (hop : o.op = Op.mapUpdate t m x v)
    (ht : Tryd.prog.underlying t = some (.map 9 81)) (hm : a.eval m = .map (some b)) (hown : IdSet w b ids) (s : ByteArray) (hx : a.eval x = .string s) (hv : a.eval v = .agg #[]) (hs : s.size ≤ 1000000000) (hn : ids.length ≤ 1000000000)
    (hK : ∀ w', IdSet w' b (ids ++ [s.data.toList]) → w.grownBy w' (some b) → wpList Tryd.prog ops Q rest (a.put o.dst undef) w') : wpList Tryd.prog ops Q (o :: rest) a w := by
  refine wpList_plain hg fun K' hK' => ?_
  obtain ⟨w', hrun, r1, r2⟩ := hown.put s hs hn t ht
  unfold Oper.wp
  simp [execOp, hop, hm, hx, hv, hrun, Result.andThen]
  exact hK' _ _ (hK w' r1 r2)
end
end Go.Proofs.YtngofpdpangajaaDoor
