/- What is in a set: the model's l7Has and the program's has. -/
import Derived.Test.YtkhnninnmpffmaaDoorSetA
namespace Go.Proofs.YtkhnninnmpffmaaDoor
open Go.RowKit

set_option maxHeartbeats 1000000 in
theorem has_any (h l : List UInt8) (n : Nat) (w : World) (hl0 : l ≠ []) (hh : h.length ≤ 1000000000) (hl : l.length ≤ 1000000000) (hn : n ≤ 9223372036854775807) :
    Calls Tryd.prog 28 #[.agg #[.string (bs h), .string (bs l)], .int .i64 n] w fun e w' => e = .returned (.bool (inS (atS h l) n)) ∧ Below w.heap.size w w' := by
  have hs1 := bs_size h
  have hs2 := bs_size l
  have hl1 : 0 < l.length := List.length_pos_iff.2 hl0
  by_cases hlt : n < h.length
  · obtain ⟨x, hx⟩ : ∃ x, h[n]? = some x := ⟨_, List.getElem?_eq_getElem hlt⟩
    have hix := fun w => run_at (P := Tryd.prog) Tryd.underlying9 hx .i64 w
    have HF := Lib.hid (show inS (atS h l) n = (x == 49) by unfold inS; rw [at_head hlt, List.getD_eq_getElem?_getD, hx]; rfl)
    obtain ⟨q, hq⟩ : ∃ q : Int, (x.toNat : Int) = q := ⟨_, rfl⟩
    have e49 : (q == 49) = (x == 49) := by rw [← hq]; exact u8_eq x 49
    rw [hq] at hix
    obtain ⟨b, hb⟩ : ∃ b, (x == 49) = b := ⟨_, rfl⟩
    rw [hb] at HF e49
    obtain ⟨H, hH⟩ : ∃ H, h.length = H := ⟨_, rfl⟩
    rw [hH] at hs1 hlt
    have hlt' : (n : Int) < (H : Int) := by omega
    rw [HF.out]
    clear hq hx hb hH hh hl hl0
    go_enter Tryd.func28, Tryd.ntmps28
    go_wp2
    go_ret
    exact ⟨rfl, by go_grown⟩
  · obtain ⟨i, hi⟩ : ∃ i, (n - h.length) % l.length = i := ⟨_, rfl⟩
    have hil : i < l.length := by rw [← hi]; exact Nat.mod_lt _ hl1
    obtain ⟨x, hx⟩ : ∃ x, l[i]? = some x := ⟨_, List.getElem?_eq_getElem hil⟩
    have hix := fun w => run_at (P := Tryd.prog) Tryd.underlying9 hx .i64 w
    have HF := Lib.hid (show inS (atS h l) n = (x == 49) by unfold inS atS; rw [if_neg hlt, hi, List.getD_eq_getElem?_getD, hx]; rfl)
    obtain ⟨q, hq⟩ : ∃ q : Int, (x.toNat : Int) = q := ⟨_, rfl⟩
    have e49 : (q == 49) = (x == 49) := by rw [← hq]; exact u8_eq x 49
    rw [hq] at hix
    obtain ⟨b, hb⟩ : ∃ b, (x == 49) = b := ⟨_, rfl⟩
    rw [hb] at HF e49
    obtain ⟨H, hH⟩ : ∃ H, h.length = H := ⟨_, rfl⟩
    obtain ⟨L, hL⟩ : ∃ L, l.length = L := ⟨_, rfl⟩
    rw [hH] at hs1 hlt hi hh
    rw [hL] at hs2 hl1 hil hi hl
    have hlt' : ¬ (n : Int) < (H : Int) := by omega
    have hw : IntKind.i64.wrap ((n : Int) - (H : Int)) = ((n - H : Nat) : Int) := by rw [IntKind.wrap_i64]; omega
    have hm : (((n - H : Nat) : Int)).tmod (L : Int) = (i : Int) := by rw [Int.tmod_eq_emod_of_nonneg (by omega), ← hi]; omega
    have hL0 : ((L : Int) == 0) = false := by rw [beq_eq_false_iff_ne]; omega
    have hL1 : (L : Int) ≠ 0 := by omega
    rw [HF.out]
    clear hq hx hb hH hL hl0 hi
    go_enter Tryd.func28, Tryd.ntmps28
    go_wp2
    go_region
    go_wp2
    go_ret
    exact ⟨rfl, by go_grown⟩

end Go.Proofs.YtkhnninnmpffmaaDoor
