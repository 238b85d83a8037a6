/- Several texts in one: SetG SetW SetX SetY Goto SetZ SetH. -/
import Derived.Test.YtpheihejgnlanaaDoorSetF
import Derived.Test.YtpheihejgnlanaaDoorBas
import Derived.ChangeKeysEq
import Derived.Deep.WholeRow
import Derived.BigQuiet
import Derived.Deep.RegionHeld3
import Derived.BigGuardPart
import Derived.WalkMore
import Derived.ScopeJumps

/- HasNumber of the model and of the program. -/
namespace Go.Proofs.YtpheihejgnlanaaDoor
open Go.RowKit

def hnB (h l : List UInt8) (n : Int) : Bool := (svS h l && decide (0 ≤ n)) && inS (atS h l) n.toNat

set_option maxHeartbeats 1000000 in
theorem HasNumber_any (h l : List UInt8) (n : Int) (w : World) (hh : h.length ≤ 1000000000) (hl : l.length ≤ 1000000000) (h0 : -9223372036854775808 ≤ n) (hn : n ≤ 9223372036854775807) :
    Calls Tryd.prog 70 #[.agg #[.string (bs h), .string (bs l)], .int .i64 n] w fun e w' => e = .returned (.bool (hnB h l n)) ∧ Below w.heap.size w w' := by
  have HV := Lib.hid fun w => SetValid_any h l w hh hl
  have HS := Lib.hid (svS_parts (h := h) (l := l))
  obtain ⟨v, hv⟩ : ∃ v, svS h l = v := ⟨_, rfl⟩
  have HQ : Hid (svS h l = v) := Lib.hid hv
  rw [hv] at HV
  clear hv
  cases v with
  | false =>
    have HF : Hid (hnB h l n = false) := Lib.hid (by unfold hnB; rw [HQ.out]; rfl)
    rw [HF.out]
    go_enter Tryd.func70, Tryd.ntmps70
    go_wp2_with fail
    generalize hW0 : World.alloc w _ = W
    obtain ⟨hx, hsx, hwx⟩ := s2_new hW0
    clear hW0
    refine (HV.out _).mono ?_
    rintro e w3 ⟨rfl, hw⟩
    skip
    go_wp2
    go_ret
    exact ⟨rfl, below_on hwx hw⟩
  | true =>
    by_cases hneg : n < 0
    · have d0 : decide (0 ≤ n) = false := decide_eq_false (by omega)
      have HF : Hid (hnB h l n = false) := Lib.hid (by unfold hnB; rw [HQ.out, d0]; rfl)
      rw [HF.out]
      go_enter Tryd.func70, Tryd.ntmps70
      go_wp2_with fail
      generalize hW0 : World.alloc w _ = W
      obtain ⟨hx, hsx, hwx⟩ := s2_new hW0
      clear hW0
      refine (HV.out _).mono ?_
      rintro e w3 ⟨rfl, hw⟩
      skip
      go_wp2
      go_ret
      exact ⟨rfl, below_on hwx hw⟩
    · obtain ⟨k, rfl⟩ : ∃ k : Nat, n = k := ⟨n.toNat, by omega⟩
      have d0 : decide (0 ≤ (k : Int)) = true := decide_eq_true (by omega)
      have HF : Hid (hnB h l k = inS (atS h l) k) := Lib.hid (by unfold hnB; rw [HQ.out, d0]; rfl)
      obtain ⟨q1, q2, _, _, _, q6⟩ := HS.out HQ.out
      have HR := Lib.hid fun w => has_any h l k w q6 hh hl (by omega)
      obtain ⟨b, hb⟩ : ∃ b, inS (atS h l) k = b := ⟨_, rfl⟩
      rw [hb] at HF HR
      rw [HF.out]
      clear hb q1 q2 q6
      go_enter Tryd.func70, Tryd.ntmps70
      go_wp2_with fail
      generalize hW0 : World.alloc w _ = W
      obtain ⟨hx, hsx, hwx⟩ := s2_new hW0
      clear hW0
      refine (HV.out _).mono ?_
      rintro e w3 ⟨rfl, hw⟩
      skip
      obtain ⟨a0, a1, a2, a3⟩ := s2_on hx hw
      have hb3 := below_on hwx hw
      go_wp2_with fail
      refine (HR.out _).mono ?_
      rintro e w4 ⟨rfl, hb4⟩
      have hb5 := below_on hb3 hb4
      go_wp2
      go_ret
      exact ⟨rfl, hb5⟩

end Go.Proofs.YtpheihejgnlanaaDoor

/- A window of the program: sixteen numbers of a set, and how two windows are compared. -/
namespace Go.Proofs.YtpheihejgnlanaaDoor
open Go.RowKit

theorem len16 {l : List Value} (h : l.length = 16) : ∃ x0 x1 x2 x3 x4 x5 x6 x7 x8 x9 x10 x11 x12 x13 x14 x15, l = [x0, x1, x2, x3, x4, x5, x6, x7, x8, x9, x10, x11, x12, x13, x14, x15] := by
  match l, h with
  | [x0, x1, x2, x3, x4, x5, x6, x7, x8, x9, x10, x11, x12, x13, x14, x15], _ => exact ⟨x0, x1, x2, x3, x4, x5, x6, x7, x8, x9, x10, x11, x12, x13, x14, x15, rfl⟩
/-- Sixteen stores into a row of sixteen. -/
theorem put16 {W W' : World} {b : Nat} {v0 v1 v2 v3 v4 v5 v6 v7 v8 v9 v10 v11 v12 v13 v14 v15 : Value} (hW : ((((((((((((((((W.setCell ⟨b, 0, none⟩ v0).setCell ⟨b, 1, none⟩ v1).setCell ⟨b, 2, none⟩ v2).setCell ⟨b, 3, none⟩ v3).setCell ⟨b, 4, none⟩ v4).setCell ⟨b, 5, none⟩ v5).setCell ⟨b, 6, none⟩ v6).setCell ⟨b, 7, none⟩ v7).setCell ⟨b, 8, none⟩ v8).setCell ⟨b, 9, none⟩ v9).setCell ⟨b, 10, none⟩ v10).setCell ⟨b, 11, none⟩ v11).setCell ⟨b, 12, none⟩ v12).setCell ⟨b, 13, none⟩ v13).setCell ⟨b, 14, none⟩ v14).setCell ⟨b, 15, none⟩ v15) = W') {c : Array Value} {t : TypeId} (h : W.heap[b]? = some (.cells c t (0, 0))) (hc : c.size = 16) :
    W'.heap[b]? = some (.cells #[v0, v1, v2, v3, v4, v5, v6, v7, v8, v9, v10, v11, v12, v13, v14, v15] t (0, 0)) ∧ (∀ w : World, Below w.heap.size w W → w.heap.size ≤ b → Below w.heap.size w W') := by
  subst hW
  refine ⟨?_, fun w hw hb => ?_⟩
  · obtain ⟨l⟩ := c
    obtain ⟨x0, x1, x2, x3, x4, x5, x6, x7, x8, x9, x10, x11, x12, x13, x14, x15, rfl⟩ := len16 (by simpa using hc)
    have := (heap_setCell_same _ b 15 _ t v15 (heap_setCell_same _ b 14 _ t v14 (heap_setCell_same _ b 13 _ t v13 (heap_setCell_same _ b 12 _ t v12 (heap_setCell_same _ b 11 _ t v11 (heap_setCell_same _ b 10 _ t v10 (heap_setCell_same _ b 9 _ t v9 (heap_setCell_same _ b 8 _ t v8 (heap_setCell_same _ b 7 _ t v7 (heap_setCell_same _ b 6 _ t v6 (heap_setCell_same _ b 5 _ t v5 (heap_setCell_same _ b 4 _ t v4 (heap_setCell_same _ b 3 _ t v3 (heap_setCell_same _ b 2 _ t v2 (heap_setCell_same _ b 1 _ t v1 (heap_setCell_same _ b 0 _ t v0 h))))))))))))))))
    simpa using this
  · exact ((((((((((((((((hw.setCell hb _).setCell hb _).setCell hb _).setCell hb _).setCell hb _).setCell hb _).setCell hb _).setCell hb _).setCell hb _).setCell hb _).setCell hb _).setCell hb _).setCell hb _).setCell hb _).setCell hb _).setCell hb _)

/-- The windows as lists of bools. -/
def winL (a : Nat → UInt8) (s : Nat) : List Bool := (List.range 16).map fun i => inS a (s + i)
theorem winL_len (a : Nat → UInt8) (s : Nat) : (winL a s).length = 16 := by simp [winL]
theorem all_range_b : ∀ (xs ys : List Bool), xs.length = ys.length → ((List.range xs.length).all fun i => xs.getD i false == ys.getD i false) = (xs == ys)
  | [], [], _ => rfl
  | x :: xs, y :: ys, h => by
    have ih := all_range_b xs ys (by simpa using h)
    rw [List.length_cons, List.range_succ_eq_map, List.all_cons, List.all_map]
    simp only [List.getD_cons_zero, Function.comp_def, List.getD_cons_succ, ih]
    simp [List.cons_beq_cons]
  | [], _ :: _, h => by simp at h
  | _ :: _, [], h => by simp at h
theorem run_items_b {P : Program} (w : World) (d : Nat) {e : TypeId} (he : P.underlying e = some .bool) (xs ys : List Bool) (n : Nat) (hx : xs.length = n) (hy : ys.length = n) : ∀ is : List Nat, (∀ i ∈ is, i < n) →
    (Op.eqItems (d + 1) e 1 (xs.map Value.bool).toArray (ys.map Value.bool).toArray is).run P w = .ok (is.all fun i => xs.getD i false == ys.getD i false) w
  | [], _ => by simp [Op.eqItems]
  | i :: is, hi => by
    have h0 : i < n := hi i (by simp)
    have px : (part e (xs.map Value.bool).toArray (i * 1)).run P w = .ok (.bool (xs.getD i false)) w := by
      simp [part, isAgg, run_underlying he, List.getD, List.getElem?_eq_getElem (show i < xs.length by omega)]
    have py : (part e (ys.map Value.bool).toArray (i * 1)).run P w = .ok (.bool (ys.getD i false)) w := by
      simp [part, isAgg, run_underlying he, List.getD, List.getElem?_eq_getElem (show i < ys.length by omega)]
    have ih := run_items_b w d he xs ys n hx hy is fun j hj => hi j (by simp [hj])
    simp only [Op.eqItems, Sem.run_bind, px, py, run_equalIn_bool' w d e _ _ he, Result.andThen_ok, List.all_cons]
    cases hb : (xs.getD i false == ys.getD i false)
    · simp
    · simp only [Bool.not_true, Bool.false_eq_true, if_false, Bool.true_and]
      exact ih
/-- Two arrays of bools are compared. -/
theorem run_neq_b {P : Program} {t e : TypeId} {n : Nat} {i : TypeInfo} (ht : P.underlying t = some (.array n e)) (hi : P.info? e = some i) (hc : P.cellsOf e = 1) (he : P.underlying e = some .bool) (xs ys : List Bool) (hx : xs.length = n) (hy : ys.length = n) (w : World) :
    (binOp .neq t (.agg (xs.map Value.bool).toArray) (.agg (ys.map Value.bool).toArray)).run P w = .ok (.bool (!(xs == ys))) w := by
  rw [run_neq_struct, run_equalIn_array w 9999 _ _ ht hi, hc, run_items_b w 9998 he xs ys n hx hy (List.range n) (fun j hj => by simpa using hj)]
  have := all_range_b xs ys (by omega)
  rw [hx] at this
  rw [this]
  rfl

end Go.Proofs.YtpheihejgnlanaaDoor

/- The program's window. -/
namespace Go.Proofs.YtpheihejgnlanaaDoor
open Go.RowKit

/-- The row of a window of which k numbers are known. -/
def wnC (f : Nat → Bool) (k : Nat) : Array Value := ((List.range 16).map fun i => Value.bool (decide (i < k) && f i)).toArray
theorem wnC_size (f : Nat → Bool) (k : Nat) : (wnC f k).size = 16 := by simp [wnC]
theorem wnC_zero (f : Nat → Bool) : wnC f 0 = Array.replicate 16 (.bool false) := by
  unfold wnC
  simp
  rfl
theorem wnC_succ (f : Nat → Bool) {k : Nat} (hk : k < 16) : (wnC f k).setIfInBounds k (.bool (f k)) = wnC f (k + 1) := by
  apply Array.ext
  · simp [wnC]
  · intro i h1 h2
    have hi : i < 16 := by rw [wnC_size] at h2; exact h2
    by_cases e : i = k
    · subst e
      simp [wnC]
    · rw [Array.getElem_setIfInBounds_ne (by rw [wnC_size]; exact hi) (fun h => e h.symm)]
      simp [wnC]
      by_cases h3 : i < k
      · simp [h3, show i < k + 1 by omega]
      · simp [h3, show ¬ i < k + 1 by omega]
theorem wnC_all (a : Nat → UInt8) (s : Nat) : wnC (fun i => inS a (s + i)) 16 = ((winL a s).map Value.bool).toArray := by
  unfold wnC winL
  rw [List.map_map]
  rfl
theorem heap_last {w W : World} {o : Obj} (hW : w.alloc o = W) : W.heap[w.heap.size]? = some o ∧ W.heap.size = w.heap.size + 1 ∧ Below w.heap.size w W := by
  subst hW
  exact ⟨heap_alloc_last w o, by simp, by go_grown⟩
theorem row_on {W w' : World} {b : Nat} {o : Obj} (h : W.heap[b]? = some o) (hb : Below W.heap.size W w') : w'.heap[b]? = some o := by
  have hlt : b < W.heap.size := by
    rcases Nat.lt_or_ge b W.heap.size with h1 | h1
    · exact h1
    · rw [Array.getElem?_eq_none h1] at h; cases h
  rw [hb.block b hlt]
  exact h

set_option maxHeartbeats 2000000 in
theorem window_any (h l : List UInt8) (s : Nat) (w : World) (hl0 : l ≠ []) (hh : h.length ≤ 1000000000) (hl : l.length ≤ 1000000000) (hs : s ≤ 1000000000000) :
    Calls Tryd.prog 109 #[.agg #[.string (bs h), .string (bs l)], .int .i64 s] w fun e w' => e = .returned (.agg ((winL (atS h l) s).map Value.bool).toArray) ∧ Below w.heap.size w w' := by
  have HR := Lib.hid fun (n : Nat) (hn : n ≤ 9223372036854775807) w => has_any h l n w hl0 hh hl hn
  have HF := Lib.hid (wnC_all (atS h l) s)
  generalize hf : (fun i => inS (atS h l) (s + i)) = f at HF
  have HV : Hid (∀ i, inS (atS h l) (s + i) = f i) := Lib.hid fun i => by rw [← hf]
  clear hl0 hh hl hf
  go_enter Tryd.func109, Tryd.ntmps109
  go_wp2_with fail
  generalize hW1 : World.alloc w _ = W1
  obtain ⟨hx, hs1, hb1⟩ := s2_new hW1
  clear hW1
  generalize hW2 : World.alloc W1 _ = W2
  obtain ⟨hz, hs2, hb2⟩ := heap_last hW2
  clear hW2
  generalize hW3 : World.alloc W2 _ = W3
  obtain ⟨hv, hs3, hb3⟩ := heap_last hW3
  clear hW3
  rw [hs1] at hz
  rw [hs2, hs1] at hv
  have HX := Lib.hid (s2_on hx (below_on hb2 hb3))
  have HZ := Lib.hid (row_on hz hb3)
  have HB := Lib.hid (below_on hb1 (below_on hb2 hb3))
  have HS := Lib.hid (show W3.heap.size = w.heap.size + 3 by omega)
  clear hx hz hb1 hb2 hb3 hs1 hs2 hs3
  rw [show (#[Value.bool false, Value.bool false, Value.bool false, Value.bool false, Value.bool false, Value.bool false, Value.bool false, Value.bool false, Value.bool false, Value.bool false, Value.bool false, Value.bool false, Value.bool false, Value.bool false, Value.bool false, Value.bool false] : Array Value) = wnC f 0 from (wnC_zero f).symm] at hv
  have HVV := Lib.hid hv
  clear hv
  go_loopw [7] (fun i wr => ∃ k : Nat, i = .int .i64 k ∧ k ≤ 16 ∧ S2 wr w.heap.size (bs h) (bs l) ∧ (∃ c, wr.heap[w.heap.size + 1]? = some (.cells c 89 (0, 0)) ∧ c.size = 16) ∧ wr.heap[w.heap.size + 1 + 1]? = some (.cells (wnC f k) 89 (0, 0)) ∧ Below w.heap.size w wr ∧ w.heap.size + 3 ≤ wr.heap.size) (fun i _ => 16 - (intOf i).toNat)
  case atStart => exact ⟨0, rfl, by omega, HX.out, ⟨_, HZ.out, rfl⟩, HVV.out, HB.out, by rw [HS.out]; omega⟩
  case round =>
    obtain ⟨k, rfl, hk, hx, hz, hv, hb, hsz⟩ := hrel
    by_cases hlt : k < 16
    · have hk' : (k : Int) < 16 := by omega
      have HR2 := Lib.hid fun W => HR.out (s + k) (by omega) W
      rw [HV.out k] at HR2
      have hw1 : IntKind.i64.wrap ((s : Int) + (k : Int)) = ((s + k : Nat) : Int) := by rw [IntKind.wrap_i64]; omega
      have hw2 : IntKind.i64.wrap ((k : Int) + 1) = ((k + 1 : Nat) : Int) := by rw [IntKind.wrap_i64]; omega
      obtain ⟨x0, x1, x2, x3⟩ := id hx
      have HZ2 := Lib.hid hz
      have HV2 := Lib.hid hv
      have HB2 := Lib.hid hb
      clear hz hv hb
      go_wp2_with fail
      refine (HR2.out _).mono ?_
      rintro e w2 ⟨rfl, hb2⟩
      have hx2 := s2_on hx hb2
      have hv2 := row_on HV2.out hb2
      have hz2 : ∃ c, w2.heap[w.heap.size + 1]? = some (.cells c 89 (0, 0)) ∧ c.size = 16 := by
        obtain ⟨c, hc, hs⟩ := HZ2.out
        exact ⟨c, row_on hc hb2, hs⟩
      have hs2 := hb2.size
      have hcl : w2.cell? ⟨w.heap.size + 1 + 1, k, none⟩ = some (.bool false) := by
        rw [cell_of_row _ _ k _ _ _ hv2]
        have hkr : k < ((List.range 16).map fun i => Value.bool (decide (i < k) && f i)).length := by simpa using hlt
        simp [wnC, hlt]
      have hfr : w2.frozen? ⟨w.heap.size + 1 + 1, k, none⟩ = false := frozen_of_row _ _ k _ _ hv2
      have HX2 := Lib.hid hx2
      have HZ3 := Lib.hid hz2
      have HV3 := Lib.hid hv2
      have HB3 := Lib.hid (below_on HB2.out hb2)
      clear x0 x1 x2 x3 hx hx2 hz2 hv2 hb2
      go_wp2
      go_roundw
      case rel =>
        refine ⟨k + 1, rfl, by omega, ?_, ?_, ?_, ?_, ?_⟩
        · obtain ⟨x0, x1, x2, x3⟩ := HX2.out
          exact ⟨by simp [World.setCell]; exact x0, by simp [go_sem, *], by simp [go_sem, *], fun o => by simp [go_sem, *]⟩
        · obtain ⟨c, hc, hs⟩ := HZ3.out
          exact ⟨c, by rw [heap_setCell_other _ _ _ _ (by simp)]; exact hc, hs⟩
        · rw [← wnC_succ f hlt]
          exact heap_setCell_same _ _ _ _ _ _ HV3.out
        · exact HB3.out.setCell (by show w.heap.size ≤ w.heap.size + 1 + 1; omega) _
        · simp [World.setCell]; omega
      case measure => simp [intOf]; omega
    · have hk' : ¬ (k : Int) < 16 := by omega
      obtain rfl : k = 16 := by omega
      obtain ⟨⟨c⟩, hc, hcs⟩ := hz
      obtain ⟨y0, y1, y2, y3, y4, y5, y6, y7, y8, y9, y10, y11, y12, y13, y14, y15, rfl⟩ := len16 (by simpa using hcs)
      have v0 : wr.cell? ⟨w.heap.size + 1 + 1, 0, none⟩ = some (.bool (f 0)) := by rw [cell_of_row _ _ 0 _ _ _ hv]; simp [wnC]
      have v1 : wr.cell? ⟨w.heap.size + 1 + 1, 1, none⟩ = some (.bool (f 1)) := by rw [cell_of_row _ _ 1 _ _ _ hv]; simp [wnC]
      have v2 : wr.cell? ⟨w.heap.size + 1 + 1, 2, none⟩ = some (.bool (f 2)) := by rw [cell_of_row _ _ 2 _ _ _ hv]; simp [wnC]
      have v3 : wr.cell? ⟨w.heap.size + 1 + 1, 3, none⟩ = some (.bool (f 3)) := by rw [cell_of_row _ _ 3 _ _ _ hv]; simp [wnC]
      have v4 : wr.cell? ⟨w.heap.size + 1 + 1, 4, none⟩ = some (.bool (f 4)) := by rw [cell_of_row _ _ 4 _ _ _ hv]; simp [wnC]
      have v5 : wr.cell? ⟨w.heap.size + 1 + 1, 5, none⟩ = some (.bool (f 5)) := by rw [cell_of_row _ _ 5 _ _ _ hv]; simp [wnC]
      have v6 : wr.cell? ⟨w.heap.size + 1 + 1, 6, none⟩ = some (.bool (f 6)) := by rw [cell_of_row _ _ 6 _ _ _ hv]; simp [wnC]
      have v7 : wr.cell? ⟨w.heap.size + 1 + 1, 7, none⟩ = some (.bool (f 7)) := by rw [cell_of_row _ _ 7 _ _ _ hv]; simp [wnC]
      have v8 : wr.cell? ⟨w.heap.size + 1 + 1, 8, none⟩ = some (.bool (f 8)) := by rw [cell_of_row _ _ 8 _ _ _ hv]; simp [wnC]
      have v9 : wr.cell? ⟨w.heap.size + 1 + 1, 9, none⟩ = some (.bool (f 9)) := by rw [cell_of_row _ _ 9 _ _ _ hv]; simp [wnC]
      have v10 : wr.cell? ⟨w.heap.size + 1 + 1, 10, none⟩ = some (.bool (f 10)) := by rw [cell_of_row _ _ 10 _ _ _ hv]; simp [wnC]
      have v11 : wr.cell? ⟨w.heap.size + 1 + 1, 11, none⟩ = some (.bool (f 11)) := by rw [cell_of_row _ _ 11 _ _ _ hv]; simp [wnC]
      have v12 : wr.cell? ⟨w.heap.size + 1 + 1, 12, none⟩ = some (.bool (f 12)) := by rw [cell_of_row _ _ 12 _ _ _ hv]; simp [wnC]
      have v13 : wr.cell? ⟨w.heap.size + 1 + 1, 13, none⟩ = some (.bool (f 13)) := by rw [cell_of_row _ _ 13 _ _ _ hv]; simp [wnC]
      have v14 : wr.cell? ⟨w.heap.size + 1 + 1, 14, none⟩ = some (.bool (f 14)) := by rw [cell_of_row _ _ 14 _ _ _ hv]; simp [wnC]
      have v15 : wr.cell? ⟨w.heap.size + 1 + 1, 15, none⟩ = some (.bool (f 15)) := by rw [cell_of_row _ _ 15 _ _ _ hv]; simp [wnC]
      have z0 : wr.cell? ⟨w.heap.size + 1, 0, none⟩ = some y0 := by rw [cell_of_row _ _ 0 _ _ _ hc]; rfl
      have z1 : wr.cell? ⟨w.heap.size + 1, 1, none⟩ = some y1 := by rw [cell_of_row _ _ 1 _ _ _ hc]; rfl
      have z2 : wr.cell? ⟨w.heap.size + 1, 2, none⟩ = some y2 := by rw [cell_of_row _ _ 2 _ _ _ hc]; rfl
      have z3 : wr.cell? ⟨w.heap.size + 1, 3, none⟩ = some y3 := by rw [cell_of_row _ _ 3 _ _ _ hc]; rfl
      have z4 : wr.cell? ⟨w.heap.size + 1, 4, none⟩ = some y4 := by rw [cell_of_row _ _ 4 _ _ _ hc]; rfl
      have z5 : wr.cell? ⟨w.heap.size + 1, 5, none⟩ = some y5 := by rw [cell_of_row _ _ 5 _ _ _ hc]; rfl
      have z6 : wr.cell? ⟨w.heap.size + 1, 6, none⟩ = some y6 := by rw [cell_of_row _ _ 6 _ _ _ hc]; rfl
      have z7 : wr.cell? ⟨w.heap.size + 1, 7, none⟩ = some y7 := by rw [cell_of_row _ _ 7 _ _ _ hc]; rfl
      have z8 : wr.cell? ⟨w.heap.size + 1, 8, none⟩ = some y8 := by rw [cell_of_row _ _ 8 _ _ _ hc]; rfl
      have z9 : wr.cell? ⟨w.heap.size + 1, 9, none⟩ = some y9 := by rw [cell_of_row _ _ 9 _ _ _ hc]; rfl
      have z10 : wr.cell? ⟨w.heap.size + 1, 10, none⟩ = some y10 := by rw [cell_of_row _ _ 10 _ _ _ hc]; rfl
      have z11 : wr.cell? ⟨w.heap.size + 1, 11, none⟩ = some y11 := by rw [cell_of_row _ _ 11 _ _ _ hc]; rfl
      have z12 : wr.cell? ⟨w.heap.size + 1, 12, none⟩ = some y12 := by rw [cell_of_row _ _ 12 _ _ _ hc]; rfl
      have z13 : wr.cell? ⟨w.heap.size + 1, 13, none⟩ = some y13 := by rw [cell_of_row _ _ 13 _ _ _ hc]; rfl
      have z14 : wr.cell? ⟨w.heap.size + 1, 14, none⟩ = some y14 := by rw [cell_of_row _ _ 14 _ _ _ hc]; rfl
      have z15 : wr.cell? ⟨w.heap.size + 1, 15, none⟩ = some y15 := by rw [cell_of_row _ _ 15 _ _ _ hc]; rfl
      have fz : ∀ o, wr.frozen? ⟨w.heap.size + 1, o, none⟩ = false := fun o => frozen_of_row _ _ o _ _ hc
      have HC := Lib.hid hc
      have HB2 := Lib.hid hb
      have HE : Hid ((#[.bool (f 0), .bool (f 1), .bool (f 2), .bool (f 3), .bool (f 4), .bool (f 5), .bool (f 6), .bool (f 7), .bool (f 8), .bool (f 9), .bool (f 10), .bool (f 11), .bool (f 12), .bool (f 13), .bool (f 14), .bool (f 15)] : Array Value) = ((winL (atS h l) s).map Value.bool).toArray) := Lib.hid (by rw [← HF.out]; rfl)
      clear hc hv hb hx hcs
      go_wp2
      generalize hW : World.setCell _ _ _ = W8
      obtain ⟨hrow, hb8⟩ := put16 hW HC.out rfl
      refine bodyPost_ret (v := .agg #[.bool (f 0), .bool (f 1), .bool (f 2), .bool (f 3), .bool (f 4), .bool (f 5), .bool (f 6), .bool (f 7), .bool (f 8), .bool (f 9), .bool (f 10), .bool (f 11), .bool (f 12), .bool (f 13), .bool (f 14), .bool (f 15)]) (results_cell_row rfl _ _ (w.heap.size + 1) _ _ _ _ rfl hrow Tryd.underlying89 rfl (by kernel_rfl)) rfl ⟨by rw [HE.out], ?_⟩
      exact hb8 w HB2.out (Nat.le_succ _)
end Go.Proofs.YtpheihejgnlanaaDoor

/- The program's repeatsAfter. -/
namespace Go.Proofs.YtpheihejgnlanaaDoor
open Go.RowKit

theorem s2_keep {W w' : World} {b : Nat} {x y : ByteArray} (h : S2 W b x y) (hb : Below W.heap.size W w') : w'.cell? ⟨b, 0, none⟩ = some (.string x) ∧ w'.cell? ⟨b, 1, none⟩ = some (.string y) :=
  have h1 := s2_on h hb
  ⟨h1.2.1, h1.2.2.1⟩
/-- What windows tell so far. -/
def RpW (a : Nat → UInt8) (N p d : Nat) : Prop := ∀ n, N ≤ n → n < p → inS a n = inS a (n + d)
theorem win_eq {a : Nat → UInt8} {s d : Nat} (h : (winL a s == winL a (s + d)) = true) {n : Nat} (h0 : s ≤ n) (h1 : n < s + 16) : inS a n = inS a (n + d) := by
  have e := eq_of_beq h
  have := congrArg (fun l => l[n - s]?) e
  unfold winL at this
  rw [List.getElem?_map, List.getElem?_map, List.getElem?_range (by omega)] at this
  simp only [Option.map_some, Option.some.injEq] at this
  rw [show s + (n - s) = n by omega, show s + d + (n - s) = n + d by omega] at this
  exact this
theorem win_ne {a : Nat → UInt8} {s d : Nat} (h : (winL a s == winL a (s + d)) = false) : ¬ ∀ n, s ≤ n → inS a n = inS a (n + d) := by
  intro hall
  have : winL a s = winL a (s + d) := by
    unfold winL
    apply List.map_congr_left
    intro i _
    rw [hall _ (by omega), show s + i + d = s + d + i by omega]
  rw [this] at h
  simp at h

set_option maxHeartbeats 2000000 in
theorem repeatsAfter_any (h l : List UInt8) (d : Nat) (w : World) (hl0 : l ≠ []) (h1 : ∀ x ∈ h, x = 48 ∨ x = 49) (h2 : ∀ x ∈ l, x = 48 ∨ x = 49) (hh : h.length ≤ 1000000000) (hl : l.length ≤ 1000000000) (hd : d ≤ 1000000000) :
    Calls Tryd.prog 96 #[.agg #[.string (bs h), .string (bs l)], .int .i64 d] w fun e w' => (∃ q : Bool, e = .returned (.bool q) ∧ (q = true ↔ PerS (atS h l) h.length d)) ∧ Below w.heap.size w w' := by
  have HW := Lib.hid fun (s : Nat) (hs : s ≤ 1000000000000) w => window_any h l s w hl0 hh hl hs
  have HB := Lib.hid (bits_at hl0 h1 h2)
  have HP : Hid ((∀ i, i < l.length → inS (atS h l) (h.length + i) = inS (atS h l) (h.length + i + d)) → PerS (atS h l) h.length d) := Lib.hid fun hw => per_of_win hl0 fun i hi => in_eq (bits_at hl0 h1 h2) (hw i hi)
  have HQ : Hid (PerS (atS h l) h.length d → ∀ n, h.length ≤ n → inS (atS h l) n = inS (atS h l) (n + d)) := Lib.hid fun hp n hn => by unfold inS; rw [hp n hn]
  have hs1 := bs_size h
  have hs2 := bs_size l
  obtain ⟨a, ha⟩ : ∃ a, atS h l = a := ⟨_, rfl⟩
  obtain ⟨H, hH⟩ : ∃ H, h.length = H := ⟨_, rfl⟩
  obtain ⟨L, hL⟩ : ∃ L, l.length = L := ⟨_, rfl⟩
  rw [ha] at HW HB HP HQ
  rw [hH] at hs1 hh HP HQ
  rw [hL] at hs2 hl HP
  rw [ha, hH]
  have hinfo : ∃ i, Tryd.prog.info? 4 = some i := Option.isSome_iff_exists.1 (by kernel_rfl)
  clear ha hH hL hl0 h1 h2
  have hw0 : IntKind.i64.wrap ((H : Int) + (L : Int)) = ((H + L : Nat) : Int) := by rw [IntKind.wrap_i64]; omega
  go_enter Tryd.func96, Tryd.ntmps96
  go_wp2_with fail
  generalize hW : World.alloc w _ = W
  obtain ⟨hx, hsW, hwW⟩ := s2_new hW
  clear hW
  have HX := Lib.hid hx
  have HWW := Lib.hid hwW
  obtain ⟨x0, x1, x2, x3⟩ := id hx
  clear hx hwW
  go_wp2
  go_loopw [6] (fun i wr => ∃ p : Nat, i = .int .i64 p ∧ H ≤ p ∧ p ≤ H + L + 16 ∧ RpW a H p d ∧ Below W.heap.size W wr) (fun i _ => H + L + 16 - (intOf i).toNat)
  case atStart => exact ⟨H, rfl, Nat.le_refl _, by omega, fun n h0 h1 => absurd h1 (by omega), Below.refl _ _⟩
  case round =>
    obtain ⟨p, rfl, hp0, hp1, hr, hb⟩ := hrel
    have HR := Lib.hid hr
    have HB2 := Lib.hid hb
    have hxr := s2_on HX.out hb
    have HXR := Lib.hid hxr
    obtain ⟨c0, c1, c2, c3⟩ := id hxr
    clear x0 x1 x2 x3 hr hb hxr
    by_cases hlt : p < H + L
    · have hlt' : (p : Int) < ((H + L : Nat) : Int) := by omega
      have hw1 : IntKind.i64.wrap ((p : Int) + (d : Int)) = ((p + d : Nat) : Int) := by rw [IntKind.wrap_i64]; omega
      have hw2 : IntKind.i64.wrap ((p : Int) + 16) = ((p + 16 : Nat) : Int) := by rw [IntKind.wrap_i64]; omega
      have P1 := Lib.hid (HW.out p (by omega))
      have P2 := Lib.hid (HW.out (p + d) (by omega))
      have hneq : ∀ W, (binOp .neq 89 (.agg ((winL a p).map Value.bool).toArray) (.agg ((winL a (p + d)).map Value.bool).toArray)).run Tryd.prog W = .ok (.bool (!(winL a p == winL a (p + d)))) W := fun W => by
        obtain ⟨i, hi⟩ := hinfo
        exact run_neq_b Tryd.underlying89 hi (by kernel_rfl) Tryd.underlying4 _ _ (winL_len _ _) (winL_len _ _) W
      obtain ⟨q, hq⟩ : ∃ q, (winL a p == winL a (p + d)) = q := ⟨_, rfl⟩
      have HQQ := Lib.hid hq
      obtain ⟨U, hU⟩ : ∃ U, ((winL a p).map Value.bool).toArray = U := ⟨_, rfl⟩
      obtain ⟨V, hV⟩ : ∃ V, ((winL a (p + d)).map Value.bool).toArray = V := ⟨_, rfl⟩
      rw [hq, hU, hV] at hneq
      rw [hU] at P1
      rw [hV] at P2
      clear hq hU hV hinfo
      go_wp2_with fail
      refine wp_region_held_drew (S := (fun w' => Below wr.heap.size wr w' ∧ w'.cell? ⟨w.heap.size, 0, none⟩ = some (.string (bs h)) ∧ w'.cell? ⟨w.heap.size, 1, none⟩ = some (.string (bs l)))) (by kernel_rfl) ?_ (fun hHeld => ?_)
      · try dsimp only
        exact ⟨by go_grown, s2_keep HXR.out (by go_grown)⟩
      refine wpAnyH_take (i := 0) (oi := { dst := some 20, op := Go.Op.load 25 (Go.Operand.tmp 2), type := 25, pos := "l7_sets.go:58", after := #[], guard := none }) (v := ?_) rfl (by kernel_rfl) (by kernel_rfl) (by kernel_rfl) (fun _ _ _ h => h) (Or.inl ⟨by rfl, ?_⟩) (by assumption) ?_
      rotate_left
      · (intro w hSw; (try dsimp only at hSw); first | (go_simp; done) | (go_simp; with_reducible rfl))
      try simp only [Act.put, List.setIfInBounds_toArray, List.set_cons_zero, List.set_cons_succ]
      refine wpAnyH_take (i := 1) (oi := { dst := some 21, op := Go.Op.move (Go.Operand.tmp 6), type := 3, pos := "l7_sets.go:58", after := #[], guard := none }) (v := ?_) rfl (by kernel_rfl) (by kernel_rfl) (by kernel_rfl) (fun _ _ _ h => h) (Or.inl ⟨by rfl, ?_⟩) (by assumption) ?_
      rotate_left
      · (intro w hSw; (try dsimp only at hSw); first | (go_simp; done) | (go_simp; with_reducible rfl))
      try simp only [Act.put, List.setIfInBounds_toArray, List.set_cons_zero, List.set_cons_succ]
      refine wpAnyH_take (i := 3) (oi := { dst := some 23, op := Go.Op.load 25 (Go.Operand.tmp 2), type := 25, pos := "l7_sets.go:58", after := #[], guard := none }) (v := ?_) rfl (by kernel_rfl) (by kernel_rfl) (by kernel_rfl) (fun _ _ _ h => h) (Or.inl ⟨by rfl, ?_⟩) (by assumption) ?_
      rotate_left
      · (intro w hSw; (try dsimp only at hSw); first | (go_simp; done) | (go_simp; with_reducible rfl))
      try simp only [Act.put, List.setIfInBounds_toArray, List.set_cons_zero, List.set_cons_succ]
      refine wpAnyH_take (i := 4) (oi := { dst := some 24, op := Go.Op.move (Go.Operand.tmp 6), type := 3, pos := "l7_sets.go:58", after := #[], guard := none }) (v := ?_) rfl (by kernel_rfl) (by kernel_rfl) (by kernel_rfl) (fun _ _ _ h => h) (Or.inl ⟨by rfl, ?_⟩) (by assumption) ?_
      rotate_left
      · (intro w hSw; (try dsimp only at hSw); first | (go_simp; done) | (go_simp; with_reducible rfl))
      try simp only [Act.put, List.setIfInBounds_toArray, List.set_cons_zero, List.set_cons_succ]
      refine wpAnyH_take (i := 5) (oi := { dst := some 25, op := Go.Op.move (Go.Operand.tmp 1), type := 3, pos := "l7_sets.go:58", after := #[], guard := none }) (v := ?_) rfl (by kernel_rfl) (by kernel_rfl) (by kernel_rfl) (fun _ _ _ h => h) (Or.inl ⟨by rfl, ?_⟩) (by assumption) ?_
      rotate_left
      · (intro w hSw; (try dsimp only at hSw); first | (go_simp; done) | (go_simp; with_reducible rfl))
      try simp only [Act.put, List.setIfInBounds_toArray, List.set_cons_zero, List.set_cons_succ]
      refine wpAnyH_take (i := 6) (oi := { dst := some 26, op := Go.Op.binOp Go.BinOp.add 3 (Go.Operand.tmp 24) (Go.Operand.tmp 25) 3, type := 3, pos := "l7_sets.go:58", after := #[{ on := 4, ground := Go.Ground.data }, { on := 5, ground := Go.Ground.data }], guard := none }) (v := ?_) rfl (by kernel_rfl) (by kernel_rfl) (by kernel_rfl) (fun _ _ _ h => h) (Or.inl ⟨by rfl, ?_⟩) (by assumption) ?_
      rotate_left
      · (intro w hSw; (try dsimp only at hSw); first | (go_simp; done) | (go_simp; with_reducible rfl))
      try simp only [Act.put, List.setIfInBounds_toArray, List.set_cons_zero, List.set_cons_succ]
      refine wpAnyH_ready (rs := [2]) (by kernel_rfl) (by simp) ?_
      refine AllReadyH.cons (o := { dst := some 22, op := Go.Op.call { callee := Go.Callee.value (Go.Operand.func 109), args := #[Go.Operand.tmp 20, Go.Operand.tmp 21], argTypes := #[25, 3] }, type := 89, pos := "l7_sets.go:58", after := #[{ on := 0, ground := Go.Ground.data }, { on := 1, ground := Go.Ground.data }], guard := none }) rfl (fun K hK => ?_) AllReadyH.nil
      go_simp
      (go_at_call 109; refine (P1.out _).mono ?_; rintro e w5 ⟨rfl, hb5⟩; have hbW5 := below_on (w := wr) (by go_grown) hb5)
      (try go_wp2_with fail)
      refine hK.out _ _ ?_ (fun hHeld => ?_)
      · try dsimp only
        exact ⟨by go_grown, s2_keep HXR.out (by go_grown)⟩
      clear hK K
      try simp only [Act.put, List.setIfInBounds_toArray, List.set_cons_zero, List.set_cons_succ]
      refine wpAnyH_ready (rs := [7]) (by kernel_rfl) (by simp) ?_
      refine AllReadyH.cons (o := { dst := some 27, op := Go.Op.call { callee := Go.Callee.value (Go.Operand.func 109), args := #[Go.Operand.tmp 23, Go.Operand.tmp 26], argTypes := #[25, 3] }, type := 89, pos := "l7_sets.go:58", after := #[{ on := 3, ground := Go.Ground.data }, { on := 6, ground := Go.Ground.data }, { on := 2, ground := Go.Ground.chain }], guard := none }) rfl (fun K hK => ?_) AllReadyH.nil
      go_simp
      (go_at_call 109; refine (P2.out _).mono ?_; rintro e w6 ⟨rfl, hb6⟩; have hbW6 := below_on (w := wr) (by go_grown) hb6)
      (try go_wp2_with fail)
      refine hK.out _ _ ?_ (fun hHeld => ?_)
      · try dsimp only
        exact ⟨by go_grown, s2_keep HXR.out (by go_grown)⟩
      clear hK K
      try simp only [Act.put, List.setIfInBounds_toArray, List.set_cons_zero, List.set_cons_succ]
      refine wpAnyH_take (i := 8) (oi := { dst := some 28, op := Go.Op.binOp Go.BinOp.neq 89 (Go.Operand.tmp 22) (Go.Operand.tmp 27) 89, type := 4, pos := "l7_sets.go:58", after := #[{ on := 2, ground := Go.Ground.data }, { on := 7, ground := Go.Ground.data }], guard := none }) (v := ?_) rfl (by kernel_rfl) (by kernel_rfl) (by kernel_rfl) (fun _ _ _ h => h) (Or.inl ⟨by rfl, ?_⟩) (by assumption) ?_
      rotate_left
      · (intro w hSw; (try dsimp only at hSw); first | (go_simp; done) | (go_simp; with_reducible rfl))
      try simp only [Act.put, List.setIfInBounds_toArray, List.set_cons_zero, List.set_cons_succ]
      refine wpAnyH_done (by kernel_rfl) ?_ _
      cases q with
      | true =>
        have HN : Hid (RpW a H (p + 16) d) := Lib.hid fun n h0 h1 => by
          by_cases hn : n < p
          · exact HR.out n h0 hn
          · exact win_eq HQQ.out (by omega) h1
        go_wp2
        go_roundw
        case rel => exact ⟨p + 16, rfl, by omega, by omega, HN.out, below_on HB2.out (by go_grown)⟩
        case measure => simp [intOf]; omega
      | false =>
        have HN : Hid (¬ PerS a H d) := Lib.hid fun hp => win_ne HQQ.out fun n hn => HQ.out hp n (by omega)
        go_wp2
        go_ret
        exact ⟨⟨false, rfl, by simp; exact HN.out⟩, below_on HWW.out (below_on HB2.out (by go_grown))⟩
    · have hlt' : ¬ (p : Int) < ((H + L : Nat) : Int) := by omega
      have HF : Hid (PerS a H d) := Lib.hid (HP.out fun i hi => HR.out _ (by omega) (by omega))
      go_wp2
      go_ret
      exact ⟨.inr ⟨rfl, HF.out⟩, below_on HWW.out HB2.out⟩
end Go.Proofs.YtpheihejgnlanaaDoor

/- A body that begins with a label, to which it may jump back. -/
namespace Go.Proofs.YtpheihejgnlanaaDoor
variable {P : Program} {Q : Exit → Act → World → Prop} {a : Act} {w : World}
theorem wp_scope_again {body : Code} (l : Nat) (J : Act → World → Prop) (μ : Act → World → Nat) (hJ : J a w)
    (pass : ∀ a w, J a w → body.wp P (Exit.jump l (fun a' w' => J a' w' ∧ μ a' w' < μ a w) Q) a w) : (Code.scope (.seq (.label l) body)).wp P Q a w := by
  have hf : findLabel (.seq (.label l) body) l = some (.seq .skip body) := by simp [findLabel]
  refine wp_scope_jumps l J μ hf ?_ fun a w h => ?_
  · refine wp_seq (wp_label ?_)
    refine wp_mono (pass a w hJ) fun e a' w' h => ?_
    cases e <;> first | exact h | exact ⟨h.1, h.2.1⟩
  · refine wp_seq (wp_skip ?_)
    exact pass a w h
end Go.Proofs.YtpheihejgnlanaaDoor

/- The program's reduced. -/
namespace Go.Proofs.YtpheihejgnlanaaDoor
open Go.RowKit

theorem clone_is (l : List UInt8) (w : World) (hl : l.length ≤ 100000000000) :
    Calls Tryd.prog 110 #[.string (bs l)] w fun e w' => e = .returned (.string (bs l)) ∧ Below w.heap.size w w' :=
  Tryd.stringslite_Clone (bs l) w (by rw [bs_size]; omega)
set_option maxHeartbeats 1000000 in
theorem sclone_is (l : List UInt8) (w : World) (hl : l.length ≤ 100000000000) :
    Calls Tryd.prog 97 #[.string (bs l)] w fun e w' => e = .returned (.string (bs l)) ∧ Below w.heap.size w w' := by
  have HC := Lib.hid fun w => clone_is l w hl
  clear hl
  go_enter Tryd.func97, Tryd.ntmps97
  go_wp2_with fail
  refine (HC.out _).mono ?_
  rintro e w1 ⟨rfl, hb⟩
  go_wp2
  go_ret
  exact ⟨rfl, hb⟩

/-- At each jump: the loop so far. -/
def RdJm (h l m : List UInt8) : Prop := m ≠ [] ∧ m.length ≤ l.length ∧ (∀ n, atS h m n = atS h l n) ∧ (∀ x ∈ m, x = 48 ∨ x = 49)
def RdS (h l : List UInt8) (w W : World) : Prop := ∃ m, RdJm h l m ∧ S2 W w.heap.size (bs h) (bs m) ∧ (∃ u v, S2 W (w.heap.size + 1) u v) ∧ Below w.heap.size w W
def boxSz (b : Nat) (W : World) : Nat := match W.cell? ⟨b, 1, none⟩ with | some (.string x) => x.size | _ => 0

theorem rd_next {h l m : List UInt8} {t : Nat} (hm : RdJm h l m) (ht : 2 ≤ t) (htm : t ≤ m.length) (he : m.length / t * t = m.length) (hp : PerS (atS h m) h.length (m.length / t)) : RdJm h l (m.take (m.length / t)) ∧ (m.take (m.length / t)).length < m.length := by
  obtain ⟨h1, h2, h3, h4⟩ := hm
  have hd0 : 0 < m.length / t := Nat.div_pos htm (by omega)
  have hlt : m.length / t < m.length := Nat.div_lt_self (by omega) (by omega)
  have hlen : (m.take (m.length / t)).length = m.length / t := by rw [List.length_take]; omega
  refine ⟨⟨fun e => by rw [e] at hlen; simp at hlen; omega, by omega, fun n => by rw [← h3]; exact red_step hd0 ⟨t, he.symm⟩ hp n, fun x hx => h4 x (List.mem_of_mem_take hx)⟩, by omega⟩
theorem box_sz {W : World} {b : Nat} {x y : ByteArray} (h : S2 W b x y) : boxSz b W = y.size := by
  unfold boxSz
  rw [h.2.2.1]
theorem rd_min {h l m : List UInt8} (_ : l ≠ []) (hm : RdJm h l m) (hx : ∀ t, 2 ≤ t → t ≤ m.length → ¬ (m.length / t * t = m.length ∧ PerS (atS h m) h.length (m.length / t))) : MinS (atS h l) m.length := by
  have := min_exit hm.1 hx
  have e : atS h m = atS h l := funext hm.2.2.1
  rwa [e] at this

/-- The frame and the world at each jump. -/
def RdJ (h l : List UInt8) (w : World) (a' : Act) (W : World) : Prop := RdS h l w W ∧ ∃ u : Nat → Value, a' = { tmps := #[.agg #[.string (bs h), .string (bs l)], .pointer (some ⟨w.heap.size, 0, none⟩), .pointer (some ⟨w.heap.size + 1, 0, none⟩), u 3, u 4, u 5, u 6, u 7, u 8, u 9, u 10, u 11, u 12, u 13, u 14, u 15, u 16, u 17, u 18, u 19, u 20, u 21, u 22, u 23, u 24, u 25, u 26, u 27, u 28, u 29, u 30, u 31, u 32, u 33, u 34, u 35, u 36, u 37, u 38, u 39, u 40, u 41, u 42, u 43, u 44, u 45, u 46, u 47, u 48, u 49, u 50, u 51, u 52, u 53, u 54, u 55, u 56, u 57, u 58, u 59, u 60, u 61, u 62, u 63, u 64, u 65, u 66, u 67, u 68, u 69, u 70, u 71, u 72, u 73, u 74, u 75, u 76], defers := [] }
theorem rdj_mk {h l : List UInt8} {w W : World} {tm : Array Value} (hS : RdS h l w W) (h0 : tm.getD 0 undef = .agg #[.string (bs h), .string (bs l)]) (h1 : tm.getD 1 undef = .pointer (some ⟨w.heap.size, 0, none⟩)) (h2 : tm.getD 2 undef = .pointer (some ⟨w.heap.size + 1, 0, none⟩)) (hs : tm.size = 77) : RdJ h l w { tmps := tm, defers := [] } W := by
  refine ⟨hS, fun i => tm.getD i undef, ?_⟩
  rw [← h0, ← h1, ← h2]
  have e : tm = ((List.range 77).map fun i => tm.getD i undef).toArray := by
    apply Array.ext
    · simp [hs]
    · intro i q1 q2
      simp [q1]
  show ({ tmps := tm, defers := [] } : Act) = { tmps := ((List.range 77).map fun i => tm.getD i undef).toArray, defers := [] }
  rw [← e]

set_option maxHeartbeats 4000000 in
theorem reduced_any (h l : List UInt8) (w : World) (hl0 : l ≠ []) (h1 : ∀ x ∈ h, x = 48 ∨ x = 49) (h2 : ∀ x ∈ l, x = 48 ∨ x = 49) (hh : h.length ≤ 1000000000) (hl : l.length ≤ 1000000000) :
    Calls Tryd.prog 84 #[.agg #[.string (bs h), .string (bs l)]] w fun e w' => e = .returned (.agg #[.string (bs ((nfS h l).1)), .string (bs ((nfS h l).2))]) ∧ Below w.heap.size w w' := by
  have HL0 := Lib.hid hl0
  have HM1 : Hid (RdJm h l l) := Lib.hid ⟨hl0, Nat.le_refl _, fun _ => rfl, h2⟩
  have HRR := Lib.hid fun m (hm : RdJm h l m) d (hd : d ≤ 1000000000) w => repeatsAfter_any h m d w hm.1 h1 hm.2.2.2 hh (Nat.le_trans hm.2.1 hl) hd
  have HLL := Lib.hid hl
  have hs1 := bs_size h
  obtain ⟨H, hH⟩ : ∃ H, h.length = H := ⟨_, rfl⟩
  have HHL := Lib.hid hH
  rw [hH] at hs1 hh HRR
  clear hl0 h1 h2 hH hl
  go_enter Tryd.func84, Tryd.ntmps84
  go_wp2_with fail
  generalize hW1 : World.alloc w _ = W1
  obtain ⟨hx, hs1', hb1⟩ := s2_new hW1
  clear hW1
  generalize hW2 : World.alloc W1 _ = W2
  obtain ⟨hz, hs2', hb2⟩ := s2_new hW2
  clear hW2
  rw [hs1'] at hz
  have HJ : Hid (RdS h l w W2) := Lib.hid ⟨l, HM1.out, s2_on hx hb2, ⟨_, _, hz⟩, below_on hb1 hb2⟩
  clear hx hz hb1 hb2 hs1' hs2'
  refine wp_scope_again 0 (RdJ h l w) (fun _ w' => boxSz w.heap.size w') (rdj_mk HJ.out rfl rfl rfl rfl) ?_
  rintro a' W ⟨⟨m, hm, hx, ⟨zu, zv, hz⟩, hb⟩, u, rfl⟩
  have HM := Lib.hid hm
  have HX := Lib.hid hx
  have HZ := Lib.hid hz
  have HB := Lib.hid hb
  obtain ⟨M, hM⟩ : ∃ M, m.length = M := ⟨_, rfl⟩
  have HML := Lib.hid hM
  have hs2 := bs_size m
  have hMl : M ≤ 1000000000 := by rw [← hM]; exact Nat.le_trans hm.2.1 HLL.out
  have HRA := Lib.hid (HRR.out m hm)
  rw [hM] at hs2
  clear hm hx hz hb hM HM1 HJ HRR
  go_wp2
  go_loopw [3] (fun i wr => ∃ t : Nat, i = .int .i64 t ∧ 2 ≤ t ∧ (t ≤ M + 1 ∨ t = 2) ∧ Below W.heap.size W wr ∧ ∀ t', 2 ≤ t' → t' < t → t' ≤ M → ¬ (M / t' * t' = M ∧ PerS (atS h m) H (M / t'))) (fun i _ => M + 2 - (intOf i).toNat)
  case atStart => exact ⟨2, rfl, Nat.le_refl _, .inr rfl, Below.refl _ _, fun t' q0 q1 _ => absurd q1 (by omega)⟩
  case round =>
    obtain ⟨t, rfl, ht2, htM, hb, hall⟩ := hrel
    have HA := Lib.hid hall
    have HBR := Lib.hid hb
    have HXR := Lib.hid (s2_on HX.out hb)
    have HZR := Lib.hid (s2_on HZ.out hb)
    obtain ⟨x0, x1, x2, x3⟩ := id HXR.out
    clear hall hb
    by_cases hlt : t ≤ M
    · have hlt' : (t : Int) ≤ (M : Int) := by omega
      obtain ⟨d, hd⟩ : ∃ d, M / t = d := ⟨_, rfl⟩
      have ht0 : (t : Int) ≠ 0 := by omega
      have hdM : d ≤ M := by rw [← hd]; exact Nat.div_le_self _ _
      have hdt : d * t ≤ M := by rw [← hd]; exact Nat.div_mul_le_self _ _
      have hdv : (M : Int).tdiv (t : Int) = (d : Int) := by rw [Int.tdiv_eq_ediv_of_nonneg (by omega), ← hd]; rfl
      obtain ⟨e, he⟩ : ∃ e, d * t = e := ⟨_, rfl⟩
      have hmul : (d : Int) * (t : Int) = (e : Int) := by rw [← he]; exact (Int.natCast_mul d t).symm
      have HD := Lib.hid hd
      have HE := Lib.hid he
      have hwt : IntKind.i64.wrap ((t : Int) + 1) = ((t + 1 : Nat) : Int) := by rw [IntKind.wrap_i64]; omega
      have hwe : IntKind.i64.wrap (e : Int) = (e : Int) := by rw [IntKind.wrap_i64]; omega
      rw [he] at hdt
      clear hd he
      by_cases hq : e = M
      · have hb1 : ((e : Int) == (M : Int)) = true := by rw [hq]; simp
        have HQ := Lib.hid hq
        have HRP := Lib.hid (HRA.out d (by omega))
        clear hq
        go_wp2_with fail
        refine (HRP.out _).mono ?_
        rintro e5 w5 ⟨⟨q, rfl, hqp⟩, hb5⟩
        have HQP := Lib.hid hqp
        have HX5 := Lib.hid (s2_on HXR.out hb5)
        have HZ5 := Lib.hid (s2_on HZR.out hb5)
        have HB5 := Lib.hid (below_on HBR.out hb5)
        clear hqp hb5 x0 x1 x2 x3
        obtain ⟨x0, x1, x2, x3⟩ := id HX5.out
        cases q with
        | true =>
          have HN := Lib.hid (rd_next HM.out ht2 (by rw [HML.out]; exact hlt) (by rw [HML.out, HD.out, HE.out]; exact HQ.out) (by rw [HML.out, HD.out, HHL.out]; exact HQP.out.1 rfl))
          rw [HML.out, HD.out] at HN
          obtain ⟨m', hm'⟩ : ∃ m', m.take d = m' := ⟨_, rfl⟩
          have hsl := run_upto (P := Tryd.prog) Tryd.underlying9 (l := m) (k := d) (by rw [HML.out]; exact hdM) hm' .i64
          rw [hm'] at HN
          clear hm'
          go_wp2
          go_step3
          try simp only [Exit.inBlock, Exit.then]
          have hX9 : S2 (World.setCell w5 ⟨w.heap.size, 1, none⟩ (.string (bs m'))) w.heap.size (bs h) (bs m') := ⟨by simp [World.setCell]; exact x0, by simp [go_sem, *], by simp [go_sem, *], fun o => by simp [go_sem, *]⟩
          have hZ9 : S2 (World.setCell w5 ⟨w.heap.size, 1, none⟩ (.string (bs m'))) (w.heap.size + 1) zu zv := by
            obtain ⟨z0, z1, z2, z3⟩ := HZ5.out
            exact ⟨by simp [World.setCell]; exact z0, by simp [go_sem, *], by simp [go_sem, *], fun o => by simp [go_sem, *]⟩
          exact (show 0 = 0 ∧ RdJ h l w _ _ ∧ boxSz w.heap.size _ < boxSz w.heap.size W from ⟨rfl, rdj_mk ⟨m', HN.out.1, hX9, ⟨_, _, hZ9⟩, (below_on HB.out HB5.out).setCell (Nat.le_refl _) _⟩ rfl rfl rfl rfl, by rw [box_sz hX9, box_sz HX.out, bs_size, bs_size, HML.out]; exact HN.out.2⟩)
        | false =>
          have HN : Hid (∀ t', 2 ≤ t' → t' < t + 1 → t' ≤ M → ¬ (M / t' * t' = M ∧ PerS (atS h m) H (M / t'))) := Lib.hid fun t' q0 q1 q2 => by
            by_cases e1 : t' = t
            · subst e1
              rw [HD.out]
              exact fun hh => absurd (HQP.out.2 hh.2) (by simp)
            · exact HA.out t' q0 (by omega) q2
          go_wp2
          go_roundw
          case rel => exact ⟨t + 1, rfl, by omega, .inl (by omega), HB5.out, HN.out⟩
          case measure => simp [intOf]; omega
      · have hb1 : ((e : Int) == (M : Int)) = false := by rw [beq_eq_false_iff_ne]; omega
        have HN : Hid (∀ t', 2 ≤ t' → t' < t + 1 → t' ≤ M → ¬ (M / t' * t' = M ∧ PerS (atS h m) H (M / t'))) := Lib.hid fun t' q0 q1 q2 => by
          by_cases e1 : t' = t
          · subst e1
            rw [HD.out, HE.out]
            exact fun hh => hq hh.1
          · exact HA.out t' q0 (by omega) q2
        clear hq
        go_wp2
        go_roundw
        case rel => exact ⟨t + 1, rfl, by omega, .inl (by omega), HBR.out, HN.out⟩
        case measure => simp [intOf]; omega
    · have hlt' : ¬ (t : Int) ≤ (M : Int) := by omega
      have HMN : Hid (MinS (atS h l) M) := Lib.hid (by rw [← HML.out]; exact rd_min HL0.out HM.out fun t' q0 q1 => by rw [HML.out] at q1 ⊢; rw [HHL.out]; exact HA.out t' q0 (by omega) q1)
      obtain ⟨hm0, hm1, hm2, hm3⟩ := HM.out
      have HM0 := Lib.hid hm0
      have HST := Lib.hid (st_all h m)
      have HE0 : Hid (∀ n, atS (stH h m H) (stL h m H) n = atS h l n) := Lib.hid fun n => by rw [← HHL.out, HST.out.1, HST.out.2]; exact hm2 n
      have happ := bs_app
      clear HA hm0 hm1 hm2 hm3
      go_wp2
      go_region
      go_wp2
      obtain ⟨Wd, hWd⟩ : ∃ Wd, wr.drew = Wd := ⟨_, rfl⟩
      have HBD : Hid (Below wr.heap.size wr Wd) := Lib.hid (by rw [← hWd]; go_grown)
      rw [hWd]
      clear hWd x0 x1 x2 x3
      go_loopw [6] (fun i wx => ∃ s : Nat, i = .int .i64 s ∧ s ≤ H ∧ Below Wd.heap.size Wd wx ∧ ∀ n, atS (stH h m s) (stL h m s) n = atS h l n) (fun i _ => (intOf i).toNat)
      case atStart => exact ⟨H, rfl, Nat.le_refl _, Below.refl _ _, HE0.out⟩
      case round =>
        obtain ⟨s, rfl, hsH, hbx, hat⟩ := hrel
        rename World => wx
        have HAT := Lib.hid hat
        have HBY := Lib.hid hbx
        have HBX := Lib.hid (below_on HBD.out hbx)
        have HXX := Lib.hid (s2_on HXR.out (below_on HBD.out hbx))
        have HZX := Lib.hid (s2_on HZR.out (below_on HBD.out hbx))
        obtain ⟨x0, x1, x2, x3⟩ := id HXX.out
        clear hat hbx
        have fin : Hid ((s = 0 ∨ ∃ t x y, s = t + 1 ∧ (h ++ m)[t]? = some x ∧ (h ++ m)[t + m.length]? = some y ∧ x ≠ y) → nfS h l = (stH h m s, stL h m s)) := Lib.hid fun hx => st_norm HL0.out HM0.out (by rw [HHL.out]; exact hsH) (by rw [HML.out]; exact HMN.out) HAT.out hx
        have hw1 : IntKind.i64.wrap ((s : Int) - 1) = (s : Int) - 1 := by rw [IntKind.wrap_i64]; omega
        obtain ⟨X, hX⟩ : ∃ X, h ++ m = X := ⟨_, rfl⟩
        have hXl : X.length = H + M := by rw [← hX, List.length_append, HHL.out, HML.out]
        obtain ⟨HM2, hHM2⟩ : ∃ k, H + M = k := ⟨_, rfl⟩
        have hXs : (bs X).size = HM2 := by rw [bs_size, hXl, hHM2]
        obtain ⟨A, hA⟩ : ∃ A, stH h m s = A := ⟨_, rfl⟩
        obtain ⟨B, hB⟩ : ∃ B, stL h m s = B := ⟨_, rfl⟩
        have hslA := run_upto (P := Tryd.prog) Tryd.underlying9 (l := X) (x := A) (k := s) (by omega) (by rw [← hX]; exact hA) .i64
        obtain ⟨sm, hsm⟩ : ∃ sm, s + M = sm := ⟨_, rfl⟩
        have hslB := run_part (P := Tryd.prog) Tryd.underlying9 (l := X) (x := B) (i := s) (j := sm) (by omega) (by omega) (by rw [← hsm, Nat.add_sub_cancel_left, ← hX, ← HML.out]; exact hB) .i64 .i64
        have hwsM : IntKind.i64.wrap ((s : Int) + (M : Int)) = (sm : Int) := by rw [IntKind.wrap_i64]; omega
        clear hsm
        have CA := Lib.hid fun w => sclone_is A w (by rw [← hA, stH_len (by rw [HHL.out]; exact hsH)]; omega)
        have CB := Lib.hid fun w => sclone_is B w (by rw [← hB, stL_len (by rw [HHL.out]; exact hsH), HML.out]; omega)
        rw [hA, hB] at fin
        by_cases hs0 : s = 0
        · have g0 : decide ((0 : Int) < (s : Int)) = false := decide_eq_false (by omega)
          have g1 : decide (0 < s) = false := decide_eq_false (by omega)
          have HF := Lib.hid (fin.out (.inl hs0))
          have hXX := hX
          rw [hX] at *
          clear fin hs0 hA hB hX hXl
          go_wp2
          go_region
          go_wp2_with fail
          generalize hWx : World.drew _ = Wx
          have HBZ : Hid (Below wx.heap.size wx Wx) := Lib.hid (by rw [← hWx]; go_grown)
          clear hWx
          have HXZ := Lib.hid (s2_on HXX.out HBZ.out)
          have HZZ := Lib.hid (s2_on HZX.out HBZ.out)
          have HBW := Lib.hid (below_on HB.out (below_on HBR.out (below_on HBX.out HBZ.out)))
          clear x0 x1 x2 x3
          refine wp_region_held_drew (S := (fun w' => w'.cell? ⟨w.heap.size, 0, none⟩ = some (.string (bs h)) ∧ w'.cell? ⟨w.heap.size, 1, none⟩ = some (.string (bs m)))) (by kernel_rfl) ?_ (fun hHeld => ?_)
          · try dsimp only
            first | (refine s2_keep HXZ.out ?_; go_grown; done) | (refine ⟨?_, ?_⟩ <;> simp [go_sem, *])
          refine wpAnyH_take (i := 0) (oi := { dst := some 63, op := Go.Op.move (Go.Operand.tmp 5), type := 9, pos := "l7_sets.go:82", after := #[], guard := none }) (v := ?_) rfl (by kernel_rfl) (by kernel_rfl) (by kernel_rfl) (fun _ _ _ h => h) (Or.inl ⟨by rfl, ?_⟩) (by assumption) ?_
          rotate_left
          · (intro w hSw; (try dsimp only at hSw); first | (go_simp; done) | (go_simp; with_reducible rfl))
          try simp only [Act.put, List.setIfInBounds_toArray, List.set_cons_zero, List.set_cons_succ]
          refine wpAnyH_take (i := 1) (oi := { dst := some 64, op := Go.Op.move (Go.Operand.tmp 6), type := 3, pos := "l7_sets.go:82", after := #[], guard := none }) (v := ?_) rfl (by kernel_rfl) (by kernel_rfl) (by kernel_rfl) (fun _ _ _ h => h) (Or.inl ⟨by rfl, ?_⟩) (by assumption) ?_
          rotate_left
          · (intro w hSw; (try dsimp only at hSw); first | (go_simp; done) | (go_simp; with_reducible rfl))
          try simp only [Act.put, List.setIfInBounds_toArray, List.set_cons_zero, List.set_cons_succ]
          refine wpAnyH_take (i := 2) (oi := { dst := some 65, op := Go.Op.slice 9 (Go.Operand.tmp 63) none (some (Go.Operand.tmp 64)) none, type := 9, pos := "l7_sets.go:82", after := #[{ on := 0, ground := Go.Ground.data }, { on := 1, ground := Go.Ground.data }], guard := none }) (v := ?_) rfl (by kernel_rfl) (by kernel_rfl) (by kernel_rfl) (fun _ _ _ h => h) (Or.inl ⟨by rfl, ?_⟩) (by assumption) ?_
          rotate_left
          · (intro w hSw; (try dsimp only at hSw); first | (go_simp; done) | (go_simp; with_reducible rfl))
          try simp only [Act.put, List.setIfInBounds_toArray, List.set_cons_zero, List.set_cons_succ]
          refine wpAnyH_take (i := 4) (oi := { dst := some 67, op := Go.Op.move (Go.Operand.tmp 5), type := 9, pos := "l7_sets.go:82", after := #[], guard := none }) (v := ?_) rfl (by kernel_rfl) (by kernel_rfl) (by kernel_rfl) (fun _ _ _ h => h) (Or.inl ⟨by rfl, ?_⟩) (by assumption) ?_
          rotate_left
          · (intro w hSw; (try dsimp only at hSw); first | (go_simp; done) | (go_simp; with_reducible rfl))
          try simp only [Act.put, List.setIfInBounds_toArray, List.set_cons_zero, List.set_cons_succ]
          refine wpAnyH_take (i := 5) (oi := { dst := some 68, op := Go.Op.move (Go.Operand.tmp 6), type := 3, pos := "l7_sets.go:82", after := #[], guard := none }) (v := ?_) rfl (by kernel_rfl) (by kernel_rfl) (by kernel_rfl) (fun _ _ _ h => h) (Or.inl ⟨by rfl, ?_⟩) (by assumption) ?_
          rotate_left
          · (intro w hSw; (try dsimp only at hSw); first | (go_simp; done) | (go_simp; with_reducible rfl))
          try simp only [Act.put, List.setIfInBounds_toArray, List.set_cons_zero, List.set_cons_succ]
          refine wpAnyH_take (i := 6) (oi := { dst := some 69, op := Go.Op.move (Go.Operand.tmp 6), type := 3, pos := "l7_sets.go:82", after := #[], guard := none }) (v := ?_) rfl (by kernel_rfl) (by kernel_rfl) (by kernel_rfl) (fun _ _ _ h => h) (Or.inl ⟨by rfl, ?_⟩) (by assumption) ?_
          rotate_left
          · (intro w hSw; (try dsimp only at hSw); first | (go_simp; done) | (go_simp; with_reducible rfl))
          try simp only [Act.put, List.setIfInBounds_toArray, List.set_cons_zero, List.set_cons_succ]
          refine wpAnyH_take (i := 7) (oi := { dst := some 70, op := Go.Op.fieldAddr 25 (Go.Operand.tmp 1) 1, type := 0, pos := "l7_sets.go:82", after := #[], guard := none }) (v := ?_) rfl (by kernel_rfl) (by kernel_rfl) (by kernel_rfl) (fun _ _ _ h => h) (Or.inl ⟨by rfl, ?_⟩) (by assumption) ?_
          rotate_left
          · (intro w hSw; (try dsimp only at hSw); first | (go_simp; done) | (go_simp; with_reducible rfl))
          try simp only [Act.put, List.setIfInBounds_toArray, List.set_cons_zero, List.set_cons_succ]
          refine wpAnyH_take (i := 8) (oi := { dst := some 71, op := Go.Op.load 9 (Go.Operand.tmp 70), type := 9, pos := "l7_sets.go:82", after := #[{ on := 7, ground := Go.Ground.data }], guard := none }) (v := ?_) rfl (by kernel_rfl) (by kernel_rfl) (by kernel_rfl) (fun _ _ _ h => h) (Or.inl ⟨by rfl, ?_⟩) (by assumption) ?_
          rotate_left
          · (intro w hSw; (try dsimp only at hSw); first | (go_simp; done) | (go_simp; with_reducible rfl))
          try simp only [Act.put, List.setIfInBounds_toArray, List.set_cons_zero, List.set_cons_succ]
          refine wpAnyH_take (i := 9) (oi := { dst := some 72, op := Go.Op.call { callee := Go.Callee.builtin Go.Builtin.len, args := #[Go.Operand.tmp 71], argTypes := #[9] }, type := 3, pos := "l7_sets.go:82", after := #[{ on := 8, ground := Go.Ground.data }], guard := none }) (v := ?_) rfl (by kernel_rfl) (by kernel_rfl) (by kernel_rfl) (fun _ _ _ h => h) (Or.inl ⟨by rfl, ?_⟩) (by assumption) ?_
          rotate_left
          · (intro w hSw; (try dsimp only at hSw); first | (go_simp; done) | (go_simp; with_reducible rfl))
          try simp only [Act.put, List.setIfInBounds_toArray, List.set_cons_zero, List.set_cons_succ]
          refine wpAnyH_take (i := 10) (oi := { dst := some 73, op := Go.Op.binOp Go.BinOp.add 3 (Go.Operand.tmp 69) (Go.Operand.tmp 72) 3, type := 3, pos := "l7_sets.go:82", after := #[{ on := 6, ground := Go.Ground.data }, { on := 9, ground := Go.Ground.data }], guard := none }) (v := ?_) rfl (by kernel_rfl) (by kernel_rfl) (by kernel_rfl) (fun _ _ _ h => h) (Or.inl ⟨by rfl, ?_⟩) (by assumption) ?_
          rotate_left
          · (intro w hSw; (try dsimp only at hSw); first | (go_simp; done) | (go_simp; with_reducible rfl))
          try simp only [Act.put, List.setIfInBounds_toArray, List.set_cons_zero, List.set_cons_succ]
          refine wpAnyH_take (i := 11) (oi := { dst := some 74, op := Go.Op.slice 9 (Go.Operand.tmp 67) (some (Go.Operand.tmp 68)) (some (Go.Operand.tmp 73)) none, type := 9, pos := "l7_sets.go:82", after := #[{ on := 4, ground := Go.Ground.data }, { on := 5, ground := Go.Ground.data }, { on := 10, ground := Go.Ground.data }], guard := none }) (v := ?_) rfl (by kernel_rfl) (by kernel_rfl) (by kernel_rfl) (fun _ _ _ h => h) (Or.inl ⟨by rfl, ?_⟩) (by assumption) ?_
          rotate_left
          · (intro w hSw; (try dsimp only at hSw); first | (go_simp; done) | (go_simp; with_reducible rfl))
          try simp only [Act.put, List.setIfInBounds_toArray, List.set_cons_zero, List.set_cons_succ]
          refine wpAnyH_ready (rs := [3]) (by kernel_rfl) (by simp) ?_
          refine AllReadyH.cons (o := { dst := some 66, op := Go.Op.call { callee := Go.Callee.value (Go.Operand.func 97), args := #[Go.Operand.tmp 65], argTypes := #[9] }, type := 9, pos := "l7_sets.go:82", after := #[{ on := 2, ground := Go.Ground.data }], guard := none }) rfl (fun K hK => ?_) AllReadyH.nil
          go_simp
          (go_at_call 97; refine (CA.out _).mono ?_; rintro e w5 ⟨rfl, hb5⟩; have hbW5 := below_on (w := Wx) (by go_grown) hb5)
          (try go_wp2_with fail)
          refine hK.out _ _ ?_ (fun hHeld => ?_)
          · try dsimp only
            first | (refine s2_keep HXZ.out ?_; go_grown; done) | (refine ⟨?_, ?_⟩ <;> simp [go_sem, *])
          clear hK K
          try simp only [Act.put, List.setIfInBounds_toArray, List.set_cons_zero, List.set_cons_succ]
          refine wpAnyH_ready (rs := [12]) (by kernel_rfl) (by simp) ?_
          refine AllReadyH.cons (o := { dst := some 75, op := Go.Op.call { callee := Go.Callee.value (Go.Operand.func 97), args := #[Go.Operand.tmp 74], argTypes := #[9] }, type := 9, pos := "l7_sets.go:82", after := #[{ on := 11, ground := Go.Ground.data }, { on := 3, ground := Go.Ground.chain }], guard := none }) rfl (fun K hK => ?_) AllReadyH.nil
          go_simp
          (go_at_call 97; refine (CB.out _).mono ?_; rintro e w6 ⟨rfl, hb6⟩; have hbW6 := below_on (w := Wx) (by go_grown) hb6; obtain ⟨z0, z1, z2, z3⟩ := s2_on HZZ.out hbW6; obtain ⟨y0, y1, y2, y3⟩ := s2_on HXZ.out hbW6; have hbF := hbW6)
          (try go_wp2_with fail)
          refine hK.out _ _ ?_ (fun hHeld => ?_)
          · try dsimp only
            first | (refine s2_keep HXZ.out ?_; go_grown; done) | (refine ⟨?_, ?_⟩ <;> simp [go_sem, *])
          clear hK K
          try simp only [Act.put, List.setIfInBounds_toArray, List.set_cons_zero, List.set_cons_succ]
          refine wpAnyH_take (i := 13) (oi := { dst := some 76, op := Go.Op.build 25 #[(0, Go.Operand.tmp 66), (1, Go.Operand.tmp 75)], type := 25, pos := "l7_sets.go:82", after := #[{ on := 3, ground := Go.Ground.data }, { on := 12, ground := Go.Ground.data }], guard := none }) (v := ?_) rfl (by kernel_rfl) (by kernel_rfl) (by kernel_rfl) (fun _ _ _ h => h) (Or.inl ⟨by rfl, ?_⟩) (by assumption) ?_
          rotate_left
          · (intro w hSw; (try dsimp only at hSw); first | (go_simp; done) | (go_simp; with_reducible rfl))
          try simp only [Act.put, List.setIfInBounds_toArray, List.set_cons_zero, List.set_cons_succ]
          refine wpAnyH_ready (rs := [14]) (by kernel_rfl) (by simp) ?_
          refine AllReadyH.cons (o := { dst := none, op := Go.Op.store 25 (Go.Operand.tmp 2) (Go.Operand.tmp 76), type := 0, pos := "l7_sets.go:82", after := #[{ on := 13, ground := Go.Ground.data }, { on := 12, ground := Go.Ground.chain }, { on := 0, ground := Go.Ground.phase }, { on := 1, ground := Go.Ground.phase }, { on := 2, ground := Go.Ground.phase }, { on := 3, ground := Go.Ground.phase }, { on := 4, ground := Go.Ground.phase }, { on := 5, ground := Go.Ground.phase }, { on := 6, ground := Go.Ground.phase }, { on := 7, ground := Go.Ground.phase }, { on := 8, ground := Go.Ground.phase }, { on := 9, ground := Go.Ground.phase }, { on := 10, ground := Go.Ground.phase }, { on := 11, ground := Go.Ground.phase }, { on := 12, ground := Go.Ground.phase }, { on := 13, ground := Go.Ground.phase }], guard := none }) rfl (fun K hK => ?_) AllReadyH.nil
          go_simp
          refine hK.out _ _ ?_ (fun hHeld => ?_)
          · try dsimp only
            first | (refine s2_keep HXZ.out ?_; go_grown; done) | (refine ⟨?_, ?_⟩ <;> simp [go_sem, *])
          clear hK K
          try simp only [Act.put, List.setIfInBounds_toArray, List.set_cons_zero, List.set_cons_succ]
          refine wpAnyH_done (by kernel_rfl) ?_ _
          go_wp2
          generalize hW8 : World.setCell _ _ _ = W8
          obtain ⟨⟨_, r1, r2, _⟩, _, _, hb8⟩ := s2_put hW8 _ _ ⟨z0, z1, z2, z3⟩
          simp only [Exit.jump]
          refine bodyPost_ret (v := .agg #[.string (bs A), .string (bs B)]) (by simp [results, Tryd.results84, go_sem, r1, r2]) rfl ⟨by rw [HF.out], ?_⟩
          exact below_on (hb8 w (below_on HBW.out hbF) (Nat.le_succ _)) (by go_grown)
        · obtain ⟨t1, ht1⟩ : ∃ t1, s = t1 + 1 := ⟨s - 1, by omega⟩
          obtain ⟨x, hx⟩ : ∃ x, X[t1]? = some x := ⟨_, List.getElem?_eq_getElem (by omega)⟩
          obtain ⟨r, hr⟩ : ∃ r, t1 + M = r := ⟨_, rfl⟩
          obtain ⟨y, hy⟩ : ∃ y, X[r]? = some y := ⟨_, List.getElem?_eq_getElem (by omega)⟩
          have g0 : decide ((0 : Int) < (s : Int)) = true := decide_eq_true (by omega)
          have g1 : decide (0 < s) = true := decide_eq_true (by omega)
          have hi1 := fun W => run_at (P := Tryd.prog) Tryd.underlying9 hx .i64 W
          have hi2 := fun W => run_at (P := Tryd.prog) Tryd.underlying9 hy .i64 W
          have hw2 : IntKind.i64.wrap ((s : Int) - 1) = (t1 : Int) := by rw [IntKind.wrap_i64]; omega
          have hw3 : IntKind.i64.wrap ((t1 : Int) + (M : Int)) = (r : Int) := by rw [IntKind.wrap_i64]; omega
          obtain ⟨qx, hqx⟩ : ∃ q : Int, (x.toNat : Int) = q := ⟨_, rfl⟩
          obtain ⟨qy, hqy⟩ : ∃ q : Int, (y.toNat : Int) = q := ⟨_, rfl⟩
          have e1 : (qx == qy) = (x == y) := by rw [← hqx, ← hqy]; exact u8_eq x y
          rw [hqx] at hi1
          rw [hqy] at hi2
          have HXE := Lib.hid hx
          have HYE := Lib.hid hy
          have HXX2 := Lib.hid hX
          have HRN := Lib.hid hr
          have hST : Hid (x = y → ∀ n, atS (stH h m t1) (stL h m t1) n = atS h l n) := Lib.hid fun e n => by
            subst e
            rw [← HAT.out n, ht1]
            exact (st_step HM0.out (by rw [HXX2.out]; exact HXE.out) (by rw [HXX2.out, HML.out, HRN.out]; exact HYE.out) n).symm
          have hFI : Hid (¬ x = y → nfS h l = (A, B)) := Lib.hid fun e => fin.out (.inr ⟨t1, x, y, ht1, by rw [HXX2.out]; exact HXE.out, by rw [HXX2.out, HML.out, HRN.out]; exact HYE.out, e⟩)
          rw [hX] at *
          have HT1 := Lib.hid ht1
          have hmeas : Hid (t1 < s) := Lib.hid (by omega)
          have htH : Hid (t1 ≤ H) := Lib.hid (by omega)
          clear hw1 fin hx hy hqx hqy hX hA hB hXl hr ht1
          cases hq : x == y with
          | true =>
            rw [hq] at e1
            have HN := Lib.hid (hST.out (by simpa using hq))
            clear hq hST hFI
            go_wp2
            go_region
            go_wp2
            go_roundw
            case rel => exact ⟨t1, rfl, htH.out, below_on HBY.out (by go_grown), HN.out⟩
            case measure => simp [intOf]; exact hmeas.out
          | false =>
            rw [hq] at e1
            have HF := Lib.hid (hFI.out (by simpa using hq))
            clear hq hST hFI hs0
            go_wp2
            go_region
            go_wp2_with fail
            generalize hWx : World.drew _ = Wx
            have HBZ : Hid (Below wx.heap.size wx Wx) := Lib.hid (by rw [← hWx]; go_grown)
            clear hWx
            have HXZ := Lib.hid (s2_on HXX.out HBZ.out)
            have HZZ := Lib.hid (s2_on HZX.out HBZ.out)
            have HBW := Lib.hid (below_on HB.out (below_on HBR.out (below_on HBX.out HBZ.out)))
            clear x0 x1 x2 x3
            refine wp_region_held_drew (S := (fun w' => w'.cell? ⟨w.heap.size, 0, none⟩ = some (.string (bs h)) ∧ w'.cell? ⟨w.heap.size, 1, none⟩ = some (.string (bs m)))) (by kernel_rfl) ?_ (fun hHeld => ?_)
            · try dsimp only
              first | (refine s2_keep HXZ.out ?_; go_grown; done) | (refine ⟨?_, ?_⟩ <;> simp [go_sem, *])
            refine wpAnyH_take (i := 0) (oi := { dst := some 63, op := Go.Op.move (Go.Operand.tmp 5), type := 9, pos := "l7_sets.go:82", after := #[], guard := none }) (v := ?_) rfl (by kernel_rfl) (by kernel_rfl) (by kernel_rfl) (fun _ _ _ h => h) (Or.inl ⟨by rfl, ?_⟩) (by assumption) ?_
            rotate_left
            · (intro w hSw; (try dsimp only at hSw); first | (go_simp; done) | (go_simp; with_reducible rfl))
            try simp only [Act.put, List.setIfInBounds_toArray, List.set_cons_zero, List.set_cons_succ]
            refine wpAnyH_take (i := 1) (oi := { dst := some 64, op := Go.Op.move (Go.Operand.tmp 6), type := 3, pos := "l7_sets.go:82", after := #[], guard := none }) (v := ?_) rfl (by kernel_rfl) (by kernel_rfl) (by kernel_rfl) (fun _ _ _ h => h) (Or.inl ⟨by rfl, ?_⟩) (by assumption) ?_
            rotate_left
            · (intro w hSw; (try dsimp only at hSw); first | (go_simp; done) | (go_simp; with_reducible rfl))
            try simp only [Act.put, List.setIfInBounds_toArray, List.set_cons_zero, List.set_cons_succ]
            refine wpAnyH_take (i := 2) (oi := { dst := some 65, op := Go.Op.slice 9 (Go.Operand.tmp 63) none (some (Go.Operand.tmp 64)) none, type := 9, pos := "l7_sets.go:82", after := #[{ on := 0, ground := Go.Ground.data }, { on := 1, ground := Go.Ground.data }], guard := none }) (v := ?_) rfl (by kernel_rfl) (by kernel_rfl) (by kernel_rfl) (fun _ _ _ h => h) (Or.inl ⟨by rfl, ?_⟩) (by assumption) ?_
            rotate_left
            · (intro w hSw; (try dsimp only at hSw); first | (go_simp; done) | (go_simp; with_reducible rfl))
            try simp only [Act.put, List.setIfInBounds_toArray, List.set_cons_zero, List.set_cons_succ]
            refine wpAnyH_take (i := 4) (oi := { dst := some 67, op := Go.Op.move (Go.Operand.tmp 5), type := 9, pos := "l7_sets.go:82", after := #[], guard := none }) (v := ?_) rfl (by kernel_rfl) (by kernel_rfl) (by kernel_rfl) (fun _ _ _ h => h) (Or.inl ⟨by rfl, ?_⟩) (by assumption) ?_
            rotate_left
            · (intro w hSw; (try dsimp only at hSw); first | (go_simp; done) | (go_simp; with_reducible rfl))
            try simp only [Act.put, List.setIfInBounds_toArray, List.set_cons_zero, List.set_cons_succ]
            refine wpAnyH_take (i := 5) (oi := { dst := some 68, op := Go.Op.move (Go.Operand.tmp 6), type := 3, pos := "l7_sets.go:82", after := #[], guard := none }) (v := ?_) rfl (by kernel_rfl) (by kernel_rfl) (by kernel_rfl) (fun _ _ _ h => h) (Or.inl ⟨by rfl, ?_⟩) (by assumption) ?_
            rotate_left
            · (intro w hSw; (try dsimp only at hSw); first | (go_simp; done) | (go_simp; with_reducible rfl))
            try simp only [Act.put, List.setIfInBounds_toArray, List.set_cons_zero, List.set_cons_succ]
            refine wpAnyH_take (i := 6) (oi := { dst := some 69, op := Go.Op.move (Go.Operand.tmp 6), type := 3, pos := "l7_sets.go:82", after := #[], guard := none }) (v := ?_) rfl (by kernel_rfl) (by kernel_rfl) (by kernel_rfl) (fun _ _ _ h => h) (Or.inl ⟨by rfl, ?_⟩) (by assumption) ?_
            rotate_left
            · (intro w hSw; (try dsimp only at hSw); first | (go_simp; done) | (go_simp; with_reducible rfl))
            try simp only [Act.put, List.setIfInBounds_toArray, List.set_cons_zero, List.set_cons_succ]
            refine wpAnyH_take (i := 7) (oi := { dst := some 70, op := Go.Op.fieldAddr 25 (Go.Operand.tmp 1) 1, type := 0, pos := "l7_sets.go:82", after := #[], guard := none }) (v := ?_) rfl (by kernel_rfl) (by kernel_rfl) (by kernel_rfl) (fun _ _ _ h => h) (Or.inl ⟨by rfl, ?_⟩) (by assumption) ?_
            rotate_left
            · (intro w hSw; (try dsimp only at hSw); first | (go_simp; done) | (go_simp; with_reducible rfl))
            try simp only [Act.put, List.setIfInBounds_toArray, List.set_cons_zero, List.set_cons_succ]
            refine wpAnyH_take (i := 8) (oi := { dst := some 71, op := Go.Op.load 9 (Go.Operand.tmp 70), type := 9, pos := "l7_sets.go:82", after := #[{ on := 7, ground := Go.Ground.data }], guard := none }) (v := ?_) rfl (by kernel_rfl) (by kernel_rfl) (by kernel_rfl) (fun _ _ _ h => h) (Or.inl ⟨by rfl, ?_⟩) (by assumption) ?_
            rotate_left
            · (intro w hSw; (try dsimp only at hSw); first | (go_simp; done) | (go_simp; with_reducible rfl))
            try simp only [Act.put, List.setIfInBounds_toArray, List.set_cons_zero, List.set_cons_succ]
            refine wpAnyH_take (i := 9) (oi := { dst := some 72, op := Go.Op.call { callee := Go.Callee.builtin Go.Builtin.len, args := #[Go.Operand.tmp 71], argTypes := #[9] }, type := 3, pos := "l7_sets.go:82", after := #[{ on := 8, ground := Go.Ground.data }], guard := none }) (v := ?_) rfl (by kernel_rfl) (by kernel_rfl) (by kernel_rfl) (fun _ _ _ h => h) (Or.inl ⟨by rfl, ?_⟩) (by assumption) ?_
            rotate_left
            · (intro w hSw; (try dsimp only at hSw); first | (go_simp; done) | (go_simp; with_reducible rfl))
            try simp only [Act.put, List.setIfInBounds_toArray, List.set_cons_zero, List.set_cons_succ]
            refine wpAnyH_take (i := 10) (oi := { dst := some 73, op := Go.Op.binOp Go.BinOp.add 3 (Go.Operand.tmp 69) (Go.Operand.tmp 72) 3, type := 3, pos := "l7_sets.go:82", after := #[{ on := 6, ground := Go.Ground.data }, { on := 9, ground := Go.Ground.data }], guard := none }) (v := ?_) rfl (by kernel_rfl) (by kernel_rfl) (by kernel_rfl) (fun _ _ _ h => h) (Or.inl ⟨by rfl, ?_⟩) (by assumption) ?_
            rotate_left
            · (intro w hSw; (try dsimp only at hSw); first | (go_simp; done) | (go_simp; with_reducible rfl))
            try simp only [Act.put, List.setIfInBounds_toArray, List.set_cons_zero, List.set_cons_succ]
            refine wpAnyH_take (i := 11) (oi := { dst := some 74, op := Go.Op.slice 9 (Go.Operand.tmp 67) (some (Go.Operand.tmp 68)) (some (Go.Operand.tmp 73)) none, type := 9, pos := "l7_sets.go:82", after := #[{ on := 4, ground := Go.Ground.data }, { on := 5, ground := Go.Ground.data }, { on := 10, ground := Go.Ground.data }], guard := none }) (v := ?_) rfl (by kernel_rfl) (by kernel_rfl) (by kernel_rfl) (fun _ _ _ h => h) (Or.inl ⟨by rfl, ?_⟩) (by assumption) ?_
            rotate_left
            · (intro w hSw; (try dsimp only at hSw); first | (go_simp; done) | (go_simp; with_reducible rfl))
            try simp only [Act.put, List.setIfInBounds_toArray, List.set_cons_zero, List.set_cons_succ]
            refine wpAnyH_ready (rs := [3]) (by kernel_rfl) (by simp) ?_
            refine AllReadyH.cons (o := { dst := some 66, op := Go.Op.call { callee := Go.Callee.value (Go.Operand.func 97), args := #[Go.Operand.tmp 65], argTypes := #[9] }, type := 9, pos := "l7_sets.go:82", after := #[{ on := 2, ground := Go.Ground.data }], guard := none }) rfl (fun K hK => ?_) AllReadyH.nil
            go_simp
            (go_at_call 97; refine (CA.out _).mono ?_; rintro e w5 ⟨rfl, hb5⟩; have hbW5 := below_on (w := Wx) (by go_grown) hb5)
            (try go_wp2_with fail)
            refine hK.out _ _ ?_ (fun hHeld => ?_)
            · try dsimp only
              first | (refine s2_keep HXZ.out ?_; go_grown; done) | (refine ⟨?_, ?_⟩ <;> simp [go_sem, *])
            clear hK K
            try simp only [Act.put, List.setIfInBounds_toArray, List.set_cons_zero, List.set_cons_succ]
            refine wpAnyH_ready (rs := [12]) (by kernel_rfl) (by simp) ?_
            refine AllReadyH.cons (o := { dst := some 75, op := Go.Op.call { callee := Go.Callee.value (Go.Operand.func 97), args := #[Go.Operand.tmp 74], argTypes := #[9] }, type := 9, pos := "l7_sets.go:82", after := #[{ on := 11, ground := Go.Ground.data }, { on := 3, ground := Go.Ground.chain }], guard := none }) rfl (fun K hK => ?_) AllReadyH.nil
            go_simp
            (go_at_call 97; refine (CB.out _).mono ?_; rintro e w6 ⟨rfl, hb6⟩; have hbW6 := below_on (w := Wx) (by go_grown) hb6; obtain ⟨z0, z1, z2, z3⟩ := s2_on HZZ.out hbW6; obtain ⟨y0, y1, y2, y3⟩ := s2_on HXZ.out hbW6; have hbF := hbW6)
            (try go_wp2_with fail)
            refine hK.out _ _ ?_ (fun hHeld => ?_)
            · try dsimp only
              first | (refine s2_keep HXZ.out ?_; go_grown; done) | (refine ⟨?_, ?_⟩ <;> simp [go_sem, *])
            clear hK K
            try simp only [Act.put, List.setIfInBounds_toArray, List.set_cons_zero, List.set_cons_succ]
            refine wpAnyH_take (i := 13) (oi := { dst := some 76, op := Go.Op.build 25 #[(0, Go.Operand.tmp 66), (1, Go.Operand.tmp 75)], type := 25, pos := "l7_sets.go:82", after := #[{ on := 3, ground := Go.Ground.data }, { on := 12, ground := Go.Ground.data }], guard := none }) (v := ?_) rfl (by kernel_rfl) (by kernel_rfl) (by kernel_rfl) (fun _ _ _ h => h) (Or.inl ⟨by rfl, ?_⟩) (by assumption) ?_
            rotate_left
            · (intro w hSw; (try dsimp only at hSw); first | (go_simp; done) | (go_simp; with_reducible rfl))
            try simp only [Act.put, List.setIfInBounds_toArray, List.set_cons_zero, List.set_cons_succ]
            refine wpAnyH_ready (rs := [14]) (by kernel_rfl) (by simp) ?_
            refine AllReadyH.cons (o := { dst := none, op := Go.Op.store 25 (Go.Operand.tmp 2) (Go.Operand.tmp 76), type := 0, pos := "l7_sets.go:82", after := #[{ on := 13, ground := Go.Ground.data }, { on := 12, ground := Go.Ground.chain }, { on := 0, ground := Go.Ground.phase }, { on := 1, ground := Go.Ground.phase }, { on := 2, ground := Go.Ground.phase }, { on := 3, ground := Go.Ground.phase }, { on := 4, ground := Go.Ground.phase }, { on := 5, ground := Go.Ground.phase }, { on := 6, ground := Go.Ground.phase }, { on := 7, ground := Go.Ground.phase }, { on := 8, ground := Go.Ground.phase }, { on := 9, ground := Go.Ground.phase }, { on := 10, ground := Go.Ground.phase }, { on := 11, ground := Go.Ground.phase }, { on := 12, ground := Go.Ground.phase }, { on := 13, ground := Go.Ground.phase }], guard := none }) rfl (fun K hK => ?_) AllReadyH.nil
            go_simp
            refine hK.out _ _ ?_ (fun hHeld => ?_)
            · try dsimp only
              first | (refine s2_keep HXZ.out ?_; go_grown; done) | (refine ⟨?_, ?_⟩ <;> simp [go_sem, *])
            clear hK K
            try simp only [Act.put, List.setIfInBounds_toArray, List.set_cons_zero, List.set_cons_succ]
            refine wpAnyH_done (by kernel_rfl) ?_ _
            go_wp2
            generalize hW8 : World.setCell _ _ _ = W8
            obtain ⟨⟨_, r1, r2, _⟩, _, _, hb8⟩ := s2_put hW8 _ _ ⟨z0, z1, z2, z3⟩
            simp only [Exit.jump]
            refine bodyPost_ret (v := .agg #[.string (bs A), .string (bs B)]) (by simp [results, Tryd.results84, go_sem, r1, r2]) rfl ⟨by rw [HF.out], ?_⟩
            exact below_on (hb8 w (below_on HBW.out hbF) (Nat.le_succ _)) (by go_grown)


end Go.Proofs.YtpheihejgnlanaaDoor

/- NormalSet of the program; SameSet of the model and of the program. -/
namespace Go.Proofs.YtpheihejgnlanaaDoor
open Go.RowKit

open Classical in
noncomputable def ssB (h l h' l' : List UInt8) : Bool := (svS h l && svS h' l') && decide (nfS h l = nfS h' l')
theorem eql_set (a b c d : List UInt8) (W : World) : (binOp .eql 25 (.agg #[.string (bs a), .string (bs b)]) (.agg #[.string (bs c), .string (bs d)])).run Tryd.prog W = .ok (.bool (a == c && b == d)) W := by
  have hlist := bs_list
  cases hq : a == c <;> cases hr : b == d <;> simp [go_sem, hq, hr, bs_list]

end Go.Proofs.YtpheihejgnlanaaDoor
