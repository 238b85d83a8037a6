/- A window of the program: sixteen numbers of a set, and how two windows are compared. -/
import Derived.Test.YtkhnninnmpffmaaDoorSetG
import Derived.ChangeKeysEq
namespace Go.Proofs.YtkhnninnmpffmaaDoor
open Go.RowKit

theorem len16 {l : List Value} (h : l.length = 16) : ∃ x0 x1 x2 x3 x4 x5 x6 x7 x8 x9 x10 x11 x12 x13 x14 x15, l = [x0, x1, x2, x3, x4, x5, x6, x7, x8, x9, x10, x11, x12, x13, x14, x15] := by
  match l, h with
  | [x0, x1, x2, x3, x4, x5, x6, x7, x8, x9, x10, x11, x12, x13, x14, x15], _ => exact ⟨x0, x1, x2, x3, x4, x5, x6, x7, x8, x9, x10, x11, x12, x13, x14, x15, rfl⟩
/-- Sixteen stores into a row of sixteen. -/
theorem put16 {W W' : World} {b : Nat} {v0 v1 v2 v3 v4 v5 v6 v7 v8 v9 v10 v11 v12 v13 v14 v15 : Value} (hW : ((((((((((((((((W.setCell ⟨b, 0, none⟩ v0).setCell ⟨b, 1, none⟩ v1).setCell ⟨b, 2, none⟩ v2).setCell ⟨b, 3, none⟩ v3).setCell ⟨b, 4, none⟩ v4).setCell ⟨b, 5, none⟩ v5).setCell ⟨b, 6, none⟩ v6).setCell ⟨b, 7, none⟩ v7).setCell ⟨b, 8, none⟩ v8).setCell ⟨b, 9, none⟩ v9).setCell ⟨b, 10, none⟩ v10).setCell ⟨b, 11, none⟩ v11).setCell ⟨b, 12, none⟩ v12).setCell ⟨b, 13, none⟩ v13).setCell ⟨b, 14, none⟩ v14).setCell ⟨b, 15, none⟩ v15) = W') {c : Array Value} {t : TypeId} (h : W.heap[b]? = some (.cells c t (0, 0))) (hc : c.size = 16) :
    W'.heap[b]? = some (.cells #[v0, v1, v2, v3, v4, v5, v6, v7, v8, v9, v10, v11, v12, v13, v14, v15] t (0, 0)) ∧ (∀ w : World, Below w.heap.size w W → w.heap.size ≤ b → Below w.heap.size w W') := by
  subst hW
  refine ⟨?_, fun w hw hb => ?_⟩
  · obtain ⟨l⟩ := c
    obtain ⟨x0, x1, x2, x3, x4, x5, x6, x7, x8, x9, x10, x11, x12, x13, x14, x15, rfl⟩ := len16 (by simpa using hc)
    have := (heap_setCell_same _ b 15 _ t v15 (heap_setCell_same _ b 14 _ t v14 (heap_setCell_same _ b 13 _ t v13 (heap_setCell_same _ b 12 _ t v12 (heap_setCell_same _ b 11 _ t v11 (heap_setCell_same _ b 10 _ t v10 (heap_setCell_same _ b 9 _ t v9 (heap_setCell_same _ b 8 _ t v8 (heap_setCell_same _ b 7 _ t v7 (heap_setCell_same _ b 6 _ t v6 (heap_setCell_same _ b 5 _ t v5 (heap_setCell_same _ b 4 _ t v4 (heap_setCell_same _ b 3 _ t v3 (heap_setCell_same _ b 2 _ t v2 (heap_setCell_same _ b 1 _ t v1 (heap_setCell_same _ b 0 _ t v0 h))))))))))))))))
    simpa using this
  · exact ((((((((((((((((hw.setCell hb _).setCell hb _).setCell hb _).setCell hb _).setCell hb _).setCell hb _).setCell hb _).setCell hb _).setCell hb _).setCell hb _).setCell hb _).setCell hb _).setCell hb _).setCell hb _).setCell hb _).setCell hb _)

/-- The windows as lists of bools. -/
def winL (a : Nat → UInt8) (s : Nat) : List Bool := (List.range 16).map fun i => inS a (s + i)
theorem winL_len (a : Nat → UInt8) (s : Nat) : (winL a s).length = 16 := by simp [winL]
theorem all_range_b : ∀ (xs ys : List Bool), xs.length = ys.length → ((List.range xs.length).all fun i => xs.getD i false == ys.getD i false) = (xs == ys)
  | [], [], _ => rfl
  | x :: xs, y :: ys, h => by
    have ih := all_range_b xs ys (by simpa using h)
    rw [List.length_cons, List.range_succ_eq_map, List.all_cons, List.all_map]
    simp only [List.getD_cons_zero, Function.comp_def, List.getD_cons_succ, ih]
    simp [List.cons_beq_cons]
  | [], _ :: _, h => by simp at h
  | _ :: _, [], h => by simp at h
theorem run_items_b {P : Program} (w : World) (d : Nat) {e : TypeId} (he : P.underlying e = some .bool) (xs ys : List Bool) (n : Nat) (hx : xs.length = n) (hy : ys.length = n) : ∀ is : List Nat, (∀ i ∈ is, i < n) →
    (Op.eqItems (d + 1) e 1 (xs.map Value.bool).toArray (ys.map Value.bool).toArray is).run P w = .ok (is.all fun i => xs.getD i false == ys.getD i false) w
  | [], _ => by simp [Op.eqItems]
  | i :: is, hi => by
    have h0 : i < n := hi i (by simp)
    have px : (part e (xs.map Value.bool).toArray (i * 1)).run P w = .ok (.bool (xs.getD i false)) w := by
      simp [part, isAgg, run_underlying he, List.getD, List.getElem?_eq_getElem (show i < xs.length by omega)]
    have py : (part e (ys.map Value.bool).toArray (i * 1)).run P w = .ok (.bool (ys.getD i false)) w := by
      simp [part, isAgg, run_underlying he, List.getD, List.getElem?_eq_getElem (show i < ys.length by omega)]
    have ih := run_items_b w d he xs ys n hx hy is fun j hj => hi j (by simp [hj])
    simp only [Op.eqItems, Sem.run_bind, px, py, run_equalIn_bool' w d e _ _ he, Result.andThen_ok, List.all_cons]
    cases hb : (xs.getD i false == ys.getD i false)
    · simp
    · simp only [Bool.not_true, Bool.false_eq_true, if_false, Bool.true_and]
      exact ih
/-- Two arrays of bools are compared. -/
theorem run_neq_b {P : Program} {t e : TypeId} {n : Nat} {i : TypeInfo} (ht : P.underlying t = some (.array n e)) (hi : P.info? e = some i) (hc : P.cellsOf e = 1) (he : P.underlying e = some .bool) (xs ys : List Bool) (hx : xs.length = n) (hy : ys.length = n) (w : World) :
    (binOp .neq t (.agg (xs.map Value.bool).toArray) (.agg (ys.map Value.bool).toArray)).run P w = .ok (.bool (!(xs == ys))) w := by
  rw [run_neq_struct, run_equalIn_array w 9999 _ _ ht hi, hc, run_items_b w 9998 he xs ys n hx hy (List.range n) (fun j hj => by simpa using hj)]
  have := all_range_b xs ys (by omega)
  rw [hx] at this
  rw [this]
  rfl

end Go.Proofs.YtkhnninnmpffmaaDoor
