/- The walks of the laws that say that SwapVars answers as its model does. -/
import Derived.Test.YthhbbfjmfcnmaabLawB
import Derived.Test.YthhbbfjmfcnmaabImplF
import Derived.Test.YthhbbfjmfcnmaabSpecJ
namespace Go.Proofs.Ythhbbfjmfcnmaab
open Go.RowKit

set_option maxHeartbeats 1000000 in
theorem exactSwapVars_some (a b c d n v u : Int) (w : World) (A B C D E : Int) (ok : Bool)
    (HS : Hid (∀ W, Calls Try.prog 35 #[.agg #[.int .i64 a, .int .i64 b, .int .i64 c, .int .i64 d, .int .i64 n], .int .i64 v, .int .i64 u] W fun e w' => e = .returned (.tuple #[.agg #[.int .i64 A, .int .i64 B, .int .i64 C, .int .i64 D, .int .i64 E], .bool ok]) ∧ Below W.heap.size W w'))
    (HI : Hid (∀ W, Calls Try.prog 36 #[.agg #[.int .i64 a, .int .i64 b, .int .i64 c, .int .i64 d, .int .i64 n], .int .i64 v, .int .i64 u] W fun e w' => e = .returned (.tuple #[.agg #[.int .i64 A, .int .i64 B, .int .i64 C, .int .i64 D, .int .i64 E], .bool ok]) ∧ Below W.heap.size W w')) :
    Calls Try.prog 11 #[.agg #[.int .i64 a, .int .i64 b, .int .i64 c, .int .i64 d, .int .i64 n], .int .i64 v, .int .i64 u] w fun e w' => e = .returned (.bool true) ∧ Below w.heap.size w w' := by
  go_enter Try.func11, Try.ntmps11
  go_wp2_with fail
  generalize hW : w.alloc (.cells #[.int .i64 a, .int .i64 b, .int .i64 c, .int .i64 d, .int .i64 n] 33) = W
  have hx : C5 W w.heap.size a b c d n := by subst hW; exact (by refine ⟨?_, ?_, ?_, ?_, ?_, ?_⟩ <;> first | (simp [go_sem]; done) | (simp; omega))
  have hw0 : Below w.heap.size w W := by subst hW; go_grown
  clear hW
  obtain ⟨x0, x1, x2, x3, x4, x5⟩ := id hx
  refine (toTerm_to a b c d n _).mono ?_
  rintro e w' ⟨rfl, rfl⟩
  go_wp2_with fail
  refine (HS.out _).mono ?_
  rintro e w1 ⟨rfl, hb1⟩
  have hbb1 := below_on (w := W) (by go_grown) hb1
  have hs1 : W.heap.size ≤ w1.heap.size := hbb1.size
  obtain ⟨x0, x1, x2, x3, x4, x5⟩ := c5_on hx hbb1
  go_wp2_with fail
  generalize hW : w1.alloc (.cells #[.int .i64 A, .int .i64 B, .int .i64 C, .int .i64 D, .int .i64 E] 36) = W2
  have hy : C5 W2 w1.heap.size (A) (B) (C) (D) (E) := by subst hW; exact (by refine ⟨?_, ?_, ?_, ?_, ?_, ?_⟩ <;> first | (simp [go_sem]; done) | (simp; omega))
  have hbb2 : Below W.heap.size W W2 := by subst hW; go_grown
  clear hW
  refine (toTerm_to a b c d n _).mono ?_
  rintro e w' ⟨rfl, rfl⟩
  go_wp2_with fail
  refine (HI.out _).mono ?_
  rintro e w3 ⟨rfl, hb3⟩
  have hbb3 := below_on (w := W2) (by go_grown) hb3
  have hs3 : W2.heap.size ≤ w3.heap.size := hbb3.size
  obtain ⟨y0, y1, y2, y3, y4, y5⟩ := c5_on hy hbb3
  go_wp2_with fail
  refine (eqTerm_same (A) (B) (C) (D) (E) _).mono ?_
  rintro e w' ⟨rfl, rfl⟩
  go_wp2
  go_ret
  have hf := below_on hw0 (below_on hbb2 hbb3)
  exact ⟨rfl, by go_grown⟩

theorem exactSwapVars_walk (a b c d n v u : Int) (w : World) :
    Calls Try.prog 11 #[.agg #[.int .i64 a, .int .i64 b, .int .i64 c, .int .i64 d, .int .i64 n], .int .i64 v, .int .i64 u] w fun e w' => e = .returned (.bool true) ∧ Below w.heap.size w w' := by
  by_cases h : (tvB a b c d n && varB v && varB u) = true
  · have h' : (tvB a b c d n = true ∧ varB v = true) ∧ varB u = true := by simpa using h
    obtain ⟨⟨h1, hv⟩, hu⟩ := h'
    have hv' : 0 ≤ v ∧ v < 4 := by simpa [varB] using hv
    have hu' : 0 ≤ u ∧ u < 4 := by simpa [varB] using hu
    obtain ⟨A, hA⟩ : ∃ A : Int, (if v = 0 then sel a b c d u 0 else if u = 0 then sel a b c d v 0 else a) = A := ⟨_, rfl⟩
    obtain ⟨B, hB⟩ : ∃ B : Int, (if v = 1 then sel a b c d u 0 else if u = 1 then sel a b c d v 0 else b) = B := ⟨_, rfl⟩
    obtain ⟨C, hC⟩ : ∃ C : Int, (if v = 2 then sel a b c d u 0 else if u = 2 then sel a b c d v 0 else c) = C := ⟨_, rfl⟩
    obtain ⟨D, hD⟩ : ∃ D : Int, (if v = 3 then sel a b c d u 0 else if u = 3 then sel a b c d v 0 else d) = D := ⟨_, rfl⟩
    exact exactSwapVars_some a b c d n v u w A B C D n true (Lib.hid fun W => specSwapVars_ok a b c d n v u A B C D W h1 hv' hu' hA hB hC hD) (Lib.hid fun W => SwapVars_ok a b c d n v u A B C D W h1 hv' hu' hA hB hC hD)
  · have h4 : (tvB a b c d n && varB v && varB u) = false := by simpa using h
    exact exactSwapVars_some a b c d n v u w 0 0 0 0 0 false (Lib.hid fun W => specSwapVars_bad a b c d n v u W h4) (Lib.hid fun W => SwapVars_bad a b c d n v u W h4)

end Go.Proofs.Ythhbbfjmfcnmaab
