/- The program's window. -/
import Derived.Test.YtkhnninnmpffmaaDoorSetW
import Derived.Deep.WholeRow
namespace Go.Proofs.YtkhnninnmpffmaaDoor
open Go.RowKit

/-- The row of a window of which k numbers are known. -/
def wnC (f : Nat → Bool) (k : Nat) : Array Value := ((List.range 16).map fun i => Value.bool (decide (i < k) && f i)).toArray
theorem wnC_size (f : Nat → Bool) (k : Nat) : (wnC f k).size = 16 := by simp [wnC]
theorem wnC_zero (f : Nat → Bool) : wnC f 0 = Array.replicate 16 (.bool false) := by
  unfold wnC
  simp
  rfl
theorem wnC_succ (f : Nat → Bool) {k : Nat} (hk : k < 16) : (wnC f k).setIfInBounds k (.bool (f k)) = wnC f (k + 1) := by
  apply Array.ext
  · simp [wnC]
  · intro i h1 h2
    have hi : i < 16 := by rw [wnC_size] at h2; exact h2
    by_cases e : i = k
    · subst e
      simp [wnC]
    · rw [Array.getElem_setIfInBounds_ne (by rw [wnC_size]; exact hi) (fun h => e h.symm)]
      simp [wnC]
      by_cases h3 : i < k
      · simp [h3, show i < k + 1 by omega]
      · simp [h3, show ¬ i < k + 1 by omega]
theorem wnC_all (a : Nat → UInt8) (s : Nat) : wnC (fun i => inS a (s + i)) 16 = ((winL a s).map Value.bool).toArray := by
  unfold wnC winL
  rw [List.map_map]
  rfl
theorem heap_last {w W : World} {o : Obj} (hW : w.alloc o = W) : W.heap[w.heap.size]? = some o ∧ W.heap.size = w.heap.size + 1 ∧ Below w.heap.size w W := by
  subst hW
  exact ⟨heap_alloc_last w o, by simp, by go_grown⟩
theorem row_on {W w' : World} {b : Nat} {o : Obj} (h : W.heap[b]? = some o) (hb : Below W.heap.size W w') : w'.heap[b]? = some o := by
  have hlt : b < W.heap.size := by
    rcases Nat.lt_or_ge b W.heap.size with h1 | h1
    · exact h1
    · rw [Array.getElem?_eq_none h1] at h; cases h
  rw [hb.block b hlt]
  exact h

set_option maxHeartbeats 2000000 in
theorem window_any (h l : List UInt8) (s : Nat) (w : World) (hl0 : l ≠ []) (hh : h.length ≤ 1000000000) (hl : l.length ≤ 1000000000) (hs : s ≤ 1000000000000) :
    Calls Tryd.prog 48 #[.agg #[.string (bs h), .string (bs l)], .int .i64 s] w fun e w' => e = .returned (.agg ((winL (atS h l) s).map Value.bool).toArray) ∧ Below w.heap.size w w' := by
  have HR := Lib.hid fun (n : Nat) (hn : n ≤ 9223372036854775807) w => has_any h l n w hl0 hh hl hn
  have HF := Lib.hid (wnC_all (atS h l) s)
  generalize hf : (fun i => inS (atS h l) (s + i)) = f at HF
  have HV : Hid (∀ i, inS (atS h l) (s + i) = f i) := Lib.hid fun i => by rw [← hf]
  clear hl0 hh hl hf
  go_enter Tryd.func48, Tryd.ntmps48
  go_wp2_with fail
  generalize hW1 : World.alloc w _ = W1
  obtain ⟨hx, hs1, hb1⟩ := s2_new hW1
  clear hW1
  generalize hW2 : World.alloc W1 _ = W2
  obtain ⟨hz, hs2, hb2⟩ := heap_last hW2
  clear hW2
  generalize hW3 : World.alloc W2 _ = W3
  obtain ⟨hv, hs3, hb3⟩ := heap_last hW3
  clear hW3
  rw [hs1] at hz
  rw [hs2, hs1] at hv
  have HX := Lib.hid (s2_on hx (below_on hb2 hb3))
  have HZ := Lib.hid (row_on hz hb3)
  have HB := Lib.hid (below_on hb1 (below_on hb2 hb3))
  have HS := Lib.hid (show W3.heap.size = w.heap.size + 3 by omega)
  clear hx hz hb1 hb2 hb3 hs1 hs2 hs3
  rw [show (#[Value.bool false, Value.bool false, Value.bool false, Value.bool false, Value.bool false, Value.bool false, Value.bool false, Value.bool false, Value.bool false, Value.bool false, Value.bool false, Value.bool false, Value.bool false, Value.bool false, Value.bool false, Value.bool false] : Array Value) = wnC f 0 from (wnC_zero f).symm] at hv
  have HVV := Lib.hid hv
  clear hv
  go_loopw [7] (fun i wr => ∃ k : Nat, i = .int .i64 k ∧ k ≤ 16 ∧ S2 wr w.heap.size (bs h) (bs l) ∧ (∃ c, wr.heap[w.heap.size + 1]? = some (.cells c 62 (0, 0)) ∧ c.size = 16) ∧ wr.heap[w.heap.size + 1 + 1]? = some (.cells (wnC f k) 62 (0, 0)) ∧ Below w.heap.size w wr ∧ w.heap.size + 3 ≤ wr.heap.size) (fun i _ => 16 - (intOf i).toNat)
  case atStart => exact ⟨0, rfl, by omega, HX.out, ⟨_, HZ.out, rfl⟩, HVV.out, HB.out, by rw [HS.out]; omega⟩
  case round =>
    obtain ⟨k, rfl, hk, hx, hz, hv, hb, hsz⟩ := hrel
    by_cases hlt : k < 16
    · have hk' : (k : Int) < 16 := by omega
      have HR2 := Lib.hid fun W => HR.out (s + k) (by omega) W
      rw [HV.out k] at HR2
      have hw1 : IntKind.i64.wrap ((s : Int) + (k : Int)) = ((s + k : Nat) : Int) := by rw [IntKind.wrap_i64]; omega
      have hw2 : IntKind.i64.wrap ((k : Int) + 1) = ((k + 1 : Nat) : Int) := by rw [IntKind.wrap_i64]; omega
      obtain ⟨x0, x1, x2, x3⟩ := id hx
      have HZ2 := Lib.hid hz
      have HV2 := Lib.hid hv
      have HB2 := Lib.hid hb
      clear hz hv hb
      go_wp2_with fail
      refine (HR2.out _).mono ?_
      rintro e w2 ⟨rfl, hb2⟩
      have hx2 := s2_on hx hb2
      have hv2 := row_on HV2.out hb2
      have hz2 : ∃ c, w2.heap[w.heap.size + 1]? = some (.cells c 62 (0, 0)) ∧ c.size = 16 := by
        obtain ⟨c, hc, hs⟩ := HZ2.out
        exact ⟨c, row_on hc hb2, hs⟩
      have hs2 := hb2.size
      have hcl : w2.cell? ⟨w.heap.size + 1 + 1, k, none⟩ = some (.bool false) := by
        rw [cell_of_row _ _ k _ _ _ hv2]
        have hkr : k < ((List.range 16).map fun i => Value.bool (decide (i < k) && f i)).length := by simpa using hlt
        simp [wnC, hlt]
      have hfr : w2.frozen? ⟨w.heap.size + 1 + 1, k, none⟩ = false := frozen_of_row _ _ k _ _ hv2
      have HX2 := Lib.hid hx2
      have HZ3 := Lib.hid hz2
      have HV3 := Lib.hid hv2
      have HB3 := Lib.hid (below_on HB2.out hb2)
      clear x0 x1 x2 x3 hx hx2 hz2 hv2 hb2
      go_wp2
      go_roundw
      case rel =>
        refine ⟨k + 1, rfl, by omega, ?_, ?_, ?_, ?_, ?_⟩
        · obtain ⟨x0, x1, x2, x3⟩ := HX2.out
          exact ⟨by simp [World.setCell]; exact x0, by simp [go_sem, *], by simp [go_sem, *], fun o => by simp [go_sem, *]⟩
        · obtain ⟨c, hc, hs⟩ := HZ3.out
          exact ⟨c, by rw [heap_setCell_other _ _ _ _ (by simp)]; exact hc, hs⟩
        · rw [← wnC_succ f hlt]
          exact heap_setCell_same _ _ _ _ _ _ HV3.out
        · exact HB3.out.setCell (by show w.heap.size ≤ w.heap.size + 1 + 1; omega) _
        · simp [World.setCell]; omega
      case measure => simp [intOf]; omega
    · have hk' : ¬ (k : Int) < 16 := by omega
      obtain rfl : k = 16 := by omega
      obtain ⟨⟨c⟩, hc, hcs⟩ := hz
      obtain ⟨y0, y1, y2, y3, y4, y5, y6, y7, y8, y9, y10, y11, y12, y13, y14, y15, rfl⟩ := len16 (by simpa using hcs)
      have v0 : wr.cell? ⟨w.heap.size + 1 + 1, 0, none⟩ = some (.bool (f 0)) := by rw [cell_of_row _ _ 0 _ _ _ hv]; simp [wnC]
      have v1 : wr.cell? ⟨w.heap.size + 1 + 1, 1, none⟩ = some (.bool (f 1)) := by rw [cell_of_row _ _ 1 _ _ _ hv]; simp [wnC]
      have v2 : wr.cell? ⟨w.heap.size + 1 + 1, 2, none⟩ = some (.bool (f 2)) := by rw [cell_of_row _ _ 2 _ _ _ hv]; simp [wnC]
      have v3 : wr.cell? ⟨w.heap.size + 1 + 1, 3, none⟩ = some (.bool (f 3)) := by rw [cell_of_row _ _ 3 _ _ _ hv]; simp [wnC]
      have v4 : wr.cell? ⟨w.heap.size + 1 + 1, 4, none⟩ = some (.bool (f 4)) := by rw [cell_of_row _ _ 4 _ _ _ hv]; simp [wnC]
      have v5 : wr.cell? ⟨w.heap.size + 1 + 1, 5, none⟩ = some (.bool (f 5)) := by rw [cell_of_row _ _ 5 _ _ _ hv]; simp [wnC]
      have v6 : wr.cell? ⟨w.heap.size + 1 + 1, 6, none⟩ = some (.bool (f 6)) := by rw [cell_of_row _ _ 6 _ _ _ hv]; simp [wnC]
      have v7 : wr.cell? ⟨w.heap.size + 1 + 1, 7, none⟩ = some (.bool (f 7)) := by rw [cell_of_row _ _ 7 _ _ _ hv]; simp [wnC]
      have v8 : wr.cell? ⟨w.heap.size + 1 + 1, 8, none⟩ = some (.bool (f 8)) := by rw [cell_of_row _ _ 8 _ _ _ hv]; simp [wnC]
      have v9 : wr.cell? ⟨w.heap.size + 1 + 1, 9, none⟩ = some (.bool (f 9)) := by rw [cell_of_row _ _ 9 _ _ _ hv]; simp [wnC]
      have v10 : wr.cell? ⟨w.heap.size + 1 + 1, 10, none⟩ = some (.bool (f 10)) := by rw [cell_of_row _ _ 10 _ _ _ hv]; simp [wnC]
      have v11 : wr.cell? ⟨w.heap.size + 1 + 1, 11, none⟩ = some (.bool (f 11)) := by rw [cell_of_row _ _ 11 _ _ _ hv]; simp [wnC]
      have v12 : wr.cell? ⟨w.heap.size + 1 + 1, 12, none⟩ = some (.bool (f 12)) := by rw [cell_of_row _ _ 12 _ _ _ hv]; simp [wnC]
      have v13 : wr.cell? ⟨w.heap.size + 1 + 1, 13, none⟩ = some (.bool (f 13)) := by rw [cell_of_row _ _ 13 _ _ _ hv]; simp [wnC]
      have v14 : wr.cell? ⟨w.heap.size + 1 + 1, 14, none⟩ = some (.bool (f 14)) := by rw [cell_of_row _ _ 14 _ _ _ hv]; simp [wnC]
      have v15 : wr.cell? ⟨w.heap.size + 1 + 1, 15, none⟩ = some (.bool (f 15)) := by rw [cell_of_row _ _ 15 _ _ _ hv]; simp [wnC]
      have z0 : wr.cell? ⟨w.heap.size + 1, 0, none⟩ = some y0 := by rw [cell_of_row _ _ 0 _ _ _ hc]; rfl
      have z1 : wr.cell? ⟨w.heap.size + 1, 1, none⟩ = some y1 := by rw [cell_of_row _ _ 1 _ _ _ hc]; rfl
      have z2 : wr.cell? ⟨w.heap.size + 1, 2, none⟩ = some y2 := by rw [cell_of_row _ _ 2 _ _ _ hc]; rfl
      have z3 : wr.cell? ⟨w.heap.size + 1, 3, none⟩ = some y3 := by rw [cell_of_row _ _ 3 _ _ _ hc]; rfl
      have z4 : wr.cell? ⟨w.heap.size + 1, 4, none⟩ = some y4 := by rw [cell_of_row _ _ 4 _ _ _ hc]; rfl
      have z5 : wr.cell? ⟨w.heap.size + 1, 5, none⟩ = some y5 := by rw [cell_of_row _ _ 5 _ _ _ hc]; rfl
      have z6 : wr.cell? ⟨w.heap.size + 1, 6, none⟩ = some y6 := by rw [cell_of_row _ _ 6 _ _ _ hc]; rfl
      have z7 : wr.cell? ⟨w.heap.size + 1, 7, none⟩ = some y7 := by rw [cell_of_row _ _ 7 _ _ _ hc]; rfl
      have z8 : wr.cell? ⟨w.heap.size + 1, 8, none⟩ = some y8 := by rw [cell_of_row _ _ 8 _ _ _ hc]; rfl
      have z9 : wr.cell? ⟨w.heap.size + 1, 9, none⟩ = some y9 := by rw [cell_of_row _ _ 9 _ _ _ hc]; rfl
      have z10 : wr.cell? ⟨w.heap.size + 1, 10, none⟩ = some y10 := by rw [cell_of_row _ _ 10 _ _ _ hc]; rfl
      have z11 : wr.cell? ⟨w.heap.size + 1, 11, none⟩ = some y11 := by rw [cell_of_row _ _ 11 _ _ _ hc]; rfl
      have z12 : wr.cell? ⟨w.heap.size + 1, 12, none⟩ = some y12 := by rw [cell_of_row _ _ 12 _ _ _ hc]; rfl
      have z13 : wr.cell? ⟨w.heap.size + 1, 13, none⟩ = some y13 := by rw [cell_of_row _ _ 13 _ _ _ hc]; rfl
      have z14 : wr.cell? ⟨w.heap.size + 1, 14, none⟩ = some y14 := by rw [cell_of_row _ _ 14 _ _ _ hc]; rfl
      have z15 : wr.cell? ⟨w.heap.size + 1, 15, none⟩ = some y15 := by rw [cell_of_row _ _ 15 _ _ _ hc]; rfl
      have fz : ∀ o, wr.frozen? ⟨w.heap.size + 1, o, none⟩ = false := fun o => frozen_of_row _ _ o _ _ hc
      have HC := Lib.hid hc
      have HB2 := Lib.hid hb
      have HE : Hid ((#[.bool (f 0), .bool (f 1), .bool (f 2), .bool (f 3), .bool (f 4), .bool (f 5), .bool (f 6), .bool (f 7), .bool (f 8), .bool (f 9), .bool (f 10), .bool (f 11), .bool (f 12), .bool (f 13), .bool (f 14), .bool (f 15)] : Array Value) = ((winL (atS h l) s).map Value.bool).toArray) := Lib.hid (by rw [← HF.out]; rfl)
      clear hc hv hb hx hcs
      go_wp2
      generalize hW : World.setCell _ _ _ = W8
      obtain ⟨hrow, hb8⟩ := put16 hW HC.out rfl
      refine bodyPost_ret (v := .agg #[.bool (f 0), .bool (f 1), .bool (f 2), .bool (f 3), .bool (f 4), .bool (f 5), .bool (f 6), .bool (f 7), .bool (f 8), .bool (f 9), .bool (f 10), .bool (f 11), .bool (f 12), .bool (f 13), .bool (f 14), .bool (f 15)]) (results_cell_row rfl _ _ (w.heap.size + 1) _ _ _ _ rfl hrow Tryd.underlying62 rfl (by kernel_rfl)) rfl ⟨by rw [HE.out], ?_⟩
      exact hb8 w HB2.out (Nat.le_succ _)
end Go.Proofs.YtkhnninnmpffmaaDoor
