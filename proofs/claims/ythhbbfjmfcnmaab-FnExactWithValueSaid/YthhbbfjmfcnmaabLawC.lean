/- The walks of the laws that say that WithValue answer as their models do. -/
import Derived.Test.YthhbbfjmfcnmaabLawB
import Derived.Test.YthhbbfjmfcnmaabImplA
namespace Go.Proofs.Ythhbbfjmfcnmaab
open Go.RowKit

set_option maxHeartbeats 1000000 in
theorem exactWithValue_ok (a b c d v m : Int) (w : World) (h : wvB a b c d v m = true) :
    Calls Try.prog 4 #[.agg #[.int .i64 a, .int .i64 b, .int .i64 c, .int .i64 d], .int .i64 v, .int .i64 m] w fun e w' => e = .returned (.bool true) ∧ Below w.heap.size w w' := by
  obtain ⟨A, hA⟩ : ∃ A : Int, A = if v = 0 then m else a := ⟨_, rfl⟩
  obtain ⟨B, hB⟩ : ∃ B : Int, B = if v = 1 then m else b := ⟨_, rfl⟩
  obtain ⟨C, hC⟩ : ∃ C : Int, C = if v = 2 then m else c := ⟨_, rfl⟩
  obtain ⟨D, hD⟩ : ∃ D : Int, D = if v = 3 then m else d := ⟨_, rfl⟩
  have hs := fun W => specWithValue_ok a b c d v m W h
  have hi := fun W => WithValue_ok a b c d v m W h
  rw [← hA, ← hB, ← hC, ← hD] at hs hi
  have HS := Lib.hid hs
  have HI := Lib.hid hi
  clear h hA hB hC hD hs hi
  go_enter Try.func4, Try.ntmps4
  go_wp2_with fail
  generalize hW : w.alloc (.cells #[.int .i64 a, .int .i64 b, .int .i64 c, .int .i64 d] 23) = W
  have hx : C4 W w.heap.size a b c d := by subst hW; exact (by refine ⟨?_, ?_, ?_, ?_, ?_⟩ <;> first | (simp [go_sem]; done) | (simp; omega))
  have hw0 : Below w.heap.size w W := by subst hW; go_grown
  clear hW
  obtain ⟨x0, x1, x2, x3, x4⟩ := id hx
  refine (toPoint_any a b c d _).mono ?_
  rintro e w' ⟨rfl, rfl⟩
  go_wp2_with fail
  refine (HS.out _).mono ?_
  rintro e w1 ⟨rfl, hb1⟩
  have hbb1 := below_on (w := W) (by go_grown) hb1
  have hs1 : W.heap.size ≤ w1.heap.size := hbb1.size
  obtain ⟨x0, x1, x2, x3, x4⟩ := c4_on hx hbb1
  go_wp2_with fail
  generalize hW : w1.alloc (.cells #[.int .i64 A, .int .i64 B, .int .i64 C, .int .i64 D] 25) = W2
  have hy : C4 W2 w1.heap.size (A) (B) (C) (D) := by subst hW; exact (by refine ⟨?_, ?_, ?_, ?_, ?_⟩ <;> first | (simp [go_sem]; done) | (simp; omega))
  have hbb2 : Below W.heap.size W W2 := by subst hW; go_grown
  clear hW
  refine (toPoint_any a b c d _).mono ?_
  rintro e w' ⟨rfl, rfl⟩
  go_wp2_with fail
  refine (HI.out _).mono ?_
  rintro e w3 ⟨rfl, hb3⟩
  have hbb3 := below_on (w := W2) (by go_grown) hb3
  have hs3 : W2.heap.size ≤ w3.heap.size := hbb3.size
  obtain ⟨y0, y1, y2, y3, y4⟩ := c4_on hy hbb3
  go_wp2_with fail
  refine (eqPoint_same (A) (B) (C) (D) _).mono ?_
  rintro e w' ⟨rfl, rfl⟩
  go_wp2
  go_ret
  have hf := below_on hw0 (below_on hbb2 hbb3)
  exact ⟨rfl, by go_grown⟩

set_option maxHeartbeats 1000000 in
theorem exactWithValue_bad (a b c d v m : Int) (w : World) (h : wvB a b c d v m = false) :
    Calls Try.prog 4 #[.agg #[.int .i64 a, .int .i64 b, .int .i64 c, .int .i64 d], .int .i64 v, .int .i64 m] w fun e w' => e = .returned (.bool true) ∧ Below w.heap.size w w' := by
  have HS := Lib.hid fun W => specWithValue_bad a b c d v m W h
  have HI := Lib.hid fun W => WithValue_bad a b c d v m W h
  clear h
  go_enter Try.func4, Try.ntmps4
  go_wp2_with fail
  generalize hW : w.alloc (.cells #[.int .i64 a, .int .i64 b, .int .i64 c, .int .i64 d] 23) = W
  have hx : C4 W w.heap.size a b c d := by subst hW; exact (by refine ⟨?_, ?_, ?_, ?_, ?_⟩ <;> first | (simp [go_sem]; done) | (simp; omega))
  have hw0 : Below w.heap.size w W := by subst hW; go_grown
  clear hW
  obtain ⟨x0, x1, x2, x3, x4⟩ := id hx
  refine (toPoint_any a b c d _).mono ?_
  rintro e w' ⟨rfl, rfl⟩
  go_wp2_with fail
  refine (HS.out _).mono ?_
  rintro e w1 ⟨rfl, hb1⟩
  have hbb1 := below_on (w := W) (by go_grown) hb1
  have hs1 : W.heap.size ≤ w1.heap.size := hbb1.size
  obtain ⟨x0, x1, x2, x3, x4⟩ := c4_on hx hbb1
  go_wp2_with fail
  generalize hW : w1.alloc (.cells #[.int .i64 0, .int .i64 0, .int .i64 0, .int .i64 0] 25) = W2
  have hy : C4 W2 w1.heap.size (0) (0) (0) (0) := by subst hW; exact (by refine ⟨?_, ?_, ?_, ?_, ?_⟩ <;> first | (simp [go_sem]; done) | (simp; omega))
  have hbb2 : Below W.heap.size W W2 := by subst hW; go_grown
  clear hW
  refine (toPoint_any a b c d _).mono ?_
  rintro e w' ⟨rfl, rfl⟩
  go_wp2_with fail
  refine (HI.out _).mono ?_
  rintro e w3 ⟨rfl, hb3⟩
  have hbb3 := below_on (w := W2) (by go_grown) hb3
  have hs3 : W2.heap.size ≤ w3.heap.size := hbb3.size
  obtain ⟨y0, y1, y2, y3, y4⟩ := c4_on hy hbb3
  go_wp2_with fail
  refine (eqPoint_same (0) (0) (0) (0) _).mono ?_
  rintro e w' ⟨rfl, rfl⟩
  go_wp2
  go_ret
  have hf := below_on hw0 (below_on hbb2 hbb3)
  exact ⟨rfl, by go_grown⟩

theorem exactWithValue_walk (a b c d v m : Int) (w : World) :
    Calls Try.prog 4 #[.agg #[.int .i64 a, .int .i64 b, .int .i64 c, .int .i64 d], .int .i64 v, .int .i64 m] w fun e w' => e = .returned (.bool true) ∧ Below w.heap.size w w' := by
  by_cases h : wvB a b c d v m = true
  · exact exactWithValue_ok a b c d v m w h
  · exact exactWithValue_bad a b c d v m w (by simpa using h)

end Go.Proofs.Ythhbbfjmfcnmaab
