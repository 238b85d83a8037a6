/- The walks of the laws that say that ScaleTerm answer as their models do. -/
import Derived.Test.YthhbbfjmfcnmaabLawB
import Derived.Test.YthhbbfjmfcnmaabImplD
import Derived.Test.YthhbbfjmfcnmaabSpecH
namespace Go.Proofs.Ythhbbfjmfcnmaab
open Go.RowKit

set_option maxHeartbeats 1000000 in
theorem exactScaleTerm_ok (a b c d n k : Int) (w : World) (h1 : tvB a b c d n = true) (h2 : wlB k 10000 = true) (h3 : tvB (a * k) (b * k) (c * k) (d * k) (n * k) = true) :
    Calls Try.prog 7 #[.agg #[.int .i64 a, .int .i64 b, .int .i64 c, .int .i64 d, .int .i64 n], .int .i64 k] w fun e w' => e = .returned (.bool true) ∧ Below w.heap.size w w' := by
  have hs := fun W => specScaleTerm_ok a b c d n k W h1 h2 h3
  have hi := fun W => ScaleTerm_ok a b c d n k W h1 h2 h3
  obtain ⟨A, hA⟩ : ∃ A : Int, A = a * k := ⟨_, rfl⟩
  obtain ⟨B, hB⟩ : ∃ B : Int, B = b * k := ⟨_, rfl⟩
  obtain ⟨C, hC⟩ : ∃ C : Int, C = c * k := ⟨_, rfl⟩
  obtain ⟨D, hD⟩ : ∃ D : Int, D = d * k := ⟨_, rfl⟩
  obtain ⟨E, hE⟩ : ∃ E : Int, E = n * k := ⟨_, rfl⟩
  rw [← hA, ← hB, ← hC, ← hD, ← hE] at hs hi
  have HS := Lib.hid hs
  have HI := Lib.hid hi
  clear h1 h2 h3 hA hB hC hD hE hs hi
  go_enter Try.func7, Try.ntmps7
  go_wp2_with fail
  generalize hW : w.alloc (.cells #[.int .i64 a, .int .i64 b, .int .i64 c, .int .i64 d, .int .i64 n] 33) = W
  have hx : C5 W w.heap.size a b c d n := by subst hW; exact (by refine ⟨?_, ?_, ?_, ?_, ?_, ?_⟩ <;> first | (simp [go_sem]; done) | (simp; omega))
  have hw0 : Below w.heap.size w W := by subst hW; go_grown
  clear hW
  obtain ⟨x0, x1, x2, x3, x4, x5⟩ := id hx
  refine (toTerm_to a b c d n _).mono ?_
  rintro e w' ⟨rfl, rfl⟩
  go_wp2_with fail
  refine (HS.out _).mono ?_
  rintro e w1 ⟨rfl, hb1⟩
  have hbb1 := below_on (w := W) (by go_grown) hb1
  have hs1 : W.heap.size ≤ w1.heap.size := hbb1.size
  obtain ⟨x0, x1, x2, x3, x4, x5⟩ := c5_on hx hbb1
  go_wp2_with fail
  generalize hW : w1.alloc (.cells #[.int .i64 A, .int .i64 B, .int .i64 C, .int .i64 D, .int .i64 E] 36) = W2
  have hy : C5 W2 w1.heap.size (A) (B) (C) (D) (E) := by subst hW; exact (by refine ⟨?_, ?_, ?_, ?_, ?_, ?_⟩ <;> first | (simp [go_sem]; done) | (simp; omega))
  have hbb2 : Below W.heap.size W W2 := by subst hW; go_grown
  clear hW
  refine (toTerm_to a b c d n _).mono ?_
  rintro e w' ⟨rfl, rfl⟩
  go_wp2_with fail
  refine (HI.out _).mono ?_
  rintro e w3 ⟨rfl, hb3⟩
  have hbb3 := below_on (w := W2) (by go_grown) hb3
  have hs3 : W2.heap.size ≤ w3.heap.size := hbb3.size
  obtain ⟨y0, y1, y2, y3, y4, y5⟩ := c5_on hy hbb3
  go_wp2_with fail
  refine (eqTerm_same (A) (B) (C) (D) (E) _).mono ?_
  rintro e w' ⟨rfl, rfl⟩
  go_wp2
  go_ret
  have hf := below_on hw0 (below_on hbb2 hbb3)
  exact ⟨rfl, by go_grown⟩

set_option maxHeartbeats 1000000 in
theorem exactScaleTerm_far (a b c d n k : Int) (w : World) (h1 : tvB a b c d n = true) (h2 : wlB k 10000 = true) (h3 : tvB (a * k) (b * k) (c * k) (d * k) (n * k) = false) :
    Calls Try.prog 7 #[.agg #[.int .i64 a, .int .i64 b, .int .i64 c, .int .i64 d, .int .i64 n], .int .i64 k] w fun e w' => e = .returned (.bool true) ∧ Below w.heap.size w w' := by
  have HS := Lib.hid fun W => specScaleTerm_far a b c d n k W h1 h2 h3
  have HI := Lib.hid fun W => ScaleTerm_far a b c d n k W h1 h2 h3
  clear h1 h2 h3
  go_enter Try.func7, Try.ntmps7
  go_wp2_with fail
  generalize hW : w.alloc (.cells #[.int .i64 a, .int .i64 b, .int .i64 c, .int .i64 d, .int .i64 n] 33) = W
  have hx : C5 W w.heap.size a b c d n := by subst hW; exact (by refine ⟨?_, ?_, ?_, ?_, ?_, ?_⟩ <;> first | (simp [go_sem]; done) | (simp; omega))
  have hw0 : Below w.heap.size w W := by subst hW; go_grown
  clear hW
  obtain ⟨x0, x1, x2, x3, x4, x5⟩ := id hx
  refine (toTerm_to a b c d n _).mono ?_
  rintro e w' ⟨rfl, rfl⟩
  go_wp2_with fail
  refine (HS.out _).mono ?_
  rintro e w1 ⟨rfl, hb1⟩
  have hbb1 := below_on (w := W) (by go_grown) hb1
  have hs1 : W.heap.size ≤ w1.heap.size := hbb1.size
  obtain ⟨x0, x1, x2, x3, x4, x5⟩ := c5_on hx hbb1
  go_wp2_with fail
  generalize hW : w1.alloc (.cells #[.int .i64 0, .int .i64 0, .int .i64 0, .int .i64 0, .int .i64 0] 36) = W2
  have hy : C5 W2 w1.heap.size (0) (0) (0) (0) (0) := by subst hW; exact (by refine ⟨?_, ?_, ?_, ?_, ?_, ?_⟩ <;> first | (simp [go_sem]; done) | (simp; omega))
  have hbb2 : Below W.heap.size W W2 := by subst hW; go_grown
  clear hW
  refine (toTerm_to a b c d n _).mono ?_
  rintro e w' ⟨rfl, rfl⟩
  go_wp2_with fail
  refine (HI.out _).mono ?_
  rintro e w3 ⟨rfl, hb3⟩
  have hbb3 := below_on (w := W2) (by go_grown) hb3
  have hs3 : W2.heap.size ≤ w3.heap.size := hbb3.size
  obtain ⟨y0, y1, y2, y3, y4, y5⟩ := c5_on hy hbb3
  go_wp2_with fail
  refine (eqTerm_same (0) (0) (0) (0) (0) _).mono ?_
  rintro e w' ⟨rfl, rfl⟩
  go_wp2
  go_ret
  have hf := below_on hw0 (below_on hbb2 hbb3)
  exact ⟨rfl, by go_grown⟩

set_option maxHeartbeats 1000000 in
theorem exactScaleTerm_bad (a b c d n k : Int) (w : World) (h : (tvB a b c d n && wlB k 10000) = false) :
    Calls Try.prog 7 #[.agg #[.int .i64 a, .int .i64 b, .int .i64 c, .int .i64 d, .int .i64 n], .int .i64 k] w fun e w' => e = .returned (.bool true) ∧ Below w.heap.size w w' := by
  have HS := Lib.hid fun W => specScaleTerm_bad a b c d n k W h
  have HI := Lib.hid fun W => ScaleTerm_bad a b c d n k W h
  clear h
  go_enter Try.func7, Try.ntmps7
  go_wp2_with fail
  generalize hW : w.alloc (.cells #[.int .i64 a, .int .i64 b, .int .i64 c, .int .i64 d, .int .i64 n] 33) = W
  have hx : C5 W w.heap.size a b c d n := by subst hW; exact (by refine ⟨?_, ?_, ?_, ?_, ?_, ?_⟩ <;> first | (simp [go_sem]; done) | (simp; omega))
  have hw0 : Below w.heap.size w W := by subst hW; go_grown
  clear hW
  obtain ⟨x0, x1, x2, x3, x4, x5⟩ := id hx
  refine (toTerm_to a b c d n _).mono ?_
  rintro e w' ⟨rfl, rfl⟩
  go_wp2_with fail
  refine (HS.out _).mono ?_
  rintro e w1 ⟨rfl, hb1⟩
  have hbb1 := below_on (w := W) (by go_grown) hb1
  have hs1 : W.heap.size ≤ w1.heap.size := hbb1.size
  obtain ⟨x0, x1, x2, x3, x4, x5⟩ := c5_on hx hbb1
  go_wp2_with fail
  generalize hW : w1.alloc (.cells #[.int .i64 0, .int .i64 0, .int .i64 0, .int .i64 0, .int .i64 0] 36) = W2
  have hy : C5 W2 w1.heap.size (0) (0) (0) (0) (0) := by subst hW; exact (by refine ⟨?_, ?_, ?_, ?_, ?_, ?_⟩ <;> first | (simp [go_sem]; done) | (simp; omega))
  have hbb2 : Below W.heap.size W W2 := by subst hW; go_grown
  clear hW
  refine (toTerm_to a b c d n _).mono ?_
  rintro e w' ⟨rfl, rfl⟩
  go_wp2_with fail
  refine (HI.out _).mono ?_
  rintro e w3 ⟨rfl, hb3⟩
  have hbb3 := below_on (w := W2) (by go_grown) hb3
  have hs3 : W2.heap.size ≤ w3.heap.size := hbb3.size
  obtain ⟨y0, y1, y2, y3, y4, y5⟩ := c5_on hy hbb3
  go_wp2_with fail
  refine (eqTerm_same (0) (0) (0) (0) (0) _).mono ?_
  rintro e w' ⟨rfl, rfl⟩
  go_wp2
  go_ret
  have hf := below_on hw0 (below_on hbb2 hbb3)
  exact ⟨rfl, by go_grown⟩

theorem exactScaleTerm_walk (a b c d n k : Int) (w : World) :
    Calls Try.prog 7 #[.agg #[.int .i64 a, .int .i64 b, .int .i64 c, .int .i64 d, .int .i64 n], .int .i64 k] w fun e w' => e = .returned (.bool true) ∧ Below w.heap.size w w' := by
  by_cases h : (tvB a b c d n && wlB k 10000) = true
  · have h' : tvB a b c d n = true ∧ wlB k 10000 = true := by simpa using h
    by_cases h3 : tvB (a * k) (b * k) (c * k) (d * k) (n * k) = true
    · exact exactScaleTerm_ok a b c d n k w h'.1 h'.2 h3
    · exact exactScaleTerm_far a b c d n k w h'.1 h'.2 (by simpa using h3)
  · exact exactScaleTerm_bad a b c d n k w (by simpa using h)

end Go.Proofs.Ythhbbfjmfcnmaab
