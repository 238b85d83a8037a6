/- The laws' own functions over sets: sizes, copies, comparisons. -/
import Derived.Test.YtmkflokcficmoaaDoorSa7
namespace Go.Proofs.YtmkflokcficmoaaDoor
open Go.RowKit

set_option maxHeartbeats 1000000 in
theorem szSet_ok (h l : List UInt8) (n : Nat) (w : World) (hs : h.length + l.length ≤ n) (hn : n ≤ 1048576) :
    Calls Tryd.prog 4 #[.agg #[.string (bs h), .string (bs l)], .int .i64 n] w fun e w' => e = .returned (.int .i64 ((n - (h.length + l.length) : Nat) : Int)) ∧ Below w.heap.size w w' := by
  have hs1 := bs_size h
  have hs2 := bs_size l
  obtain ⟨H, hH⟩ : ∃ H, h.length = H := ⟨_, rfl⟩
  obtain ⟨L, hL⟩ : ∃ L, l.length = L := ⟨_, rfl⟩
  rw [hH] at hs1 hs
  rw [hL] at hs2 hs
  rw [hH, hL]
  clear hH hL
  have w1 : IntKind.i64.wrap ((n : Int) - (H : Int)) = ((n - H : Nat) : Int) := by rw [IntKind.wrap_i64]; omega
  have w2 : IntKind.i64.wrap (((n - H : Nat) : Int) - (L : Int)) = ((n - (H + L) : Nat) : Int) := by rw [IntKind.wrap_i64]; omega
  have d1 : decide (((n - H : Nat) : Int) < 0) = false := decide_eq_false (by omega)
  have d2 : decide (((n - (H + L) : Nat) : Int) < 0) = false := decide_eq_false (by omega)
  go_enter Tryd.func4, Tryd.ntmps4
  go_wp2
  go_ret
  exact ⟨rfl, by go_grown⟩

set_option maxHeartbeats 1000000 in
theorem szSet_no (h l : List UInt8) (n : Nat) (w : World) (hs : n < h.length + l.length) (hn : n ≤ 1048576) (h1 : h.length ≤ 9223372036854775807) (h2 : l.length ≤ 9223372036854775807) :
    Calls Tryd.prog 4 #[.agg #[.string (bs h), .string (bs l)], .int .i64 n] w fun e w' => e = .returned (.int .i64 (-1)) ∧ Below w.heap.size w w' := by
  have hs1 := bs_size h
  have hs2 := bs_size l
  obtain ⟨H, hH⟩ : ∃ H, h.length = H := ⟨_, rfl⟩
  obtain ⟨L, hL⟩ : ∃ L, l.length = L := ⟨_, rfl⟩
  rw [hH] at hs1 hs h1
  rw [hL] at hs2 hs h2
  clear hH hL
  by_cases c : n < H
  · obtain ⟨r, hr⟩ : ∃ r : Int, (n : Int) - (H : Int) = r := ⟨_, rfl⟩
    have w1 : IntKind.i64.wrap r = r := by rw [IntKind.wrap_i64]; omega
    have d1 : decide (r < 0) = true := decide_eq_true (by omega)
    go_enter Tryd.func4, Tryd.ntmps4
    go_wp2
    go_ret
    exact ⟨rfl, by go_grown⟩
  · have w1 : IntKind.i64.wrap ((n : Int) - (H : Int)) = ((n - H : Nat) : Int) := by rw [IntKind.wrap_i64]; omega
    obtain ⟨r, hr⟩ : ∃ r : Int, ((n - H : Nat) : Int) - (L : Int) = r := ⟨_, rfl⟩
    have w2 : IntKind.i64.wrap r = r := by rw [IntKind.wrap_i64]; omega
    have d1 : decide (((n - H : Nat) : Int) < 0) = false := decide_eq_false (by omega)
    have d2 : decide (r < 0) = true := decide_eq_true (by omega)
    go_enter Tryd.func4, Tryd.ntmps4
    go_wp2
    go_ret
    exact ⟨rfl, by go_grown⟩

set_option maxHeartbeats 1000000 in
theorem toSet_any (h l : List UInt8) (w : World) :
    Calls Tryd.prog 6 #[.agg #[.string (bs h), .string (bs l)]] w fun e w' => e = .returned (.agg #[.string (bs h), .string (bs l)]) ∧ Below w.heap.size w w' := by
  go_enter Tryd.func6, Tryd.ntmps6
  go_wp2
  refine bodyPost_ret (v := .agg #[.string (bs h), .string (bs l)]) (by simp [results, Tryd.results6, go_sem]) rfl ⟨rfl, ?_⟩
  go_grown

end Go.Proofs.YtmkflokcficmoaaDoor
