/- The walk of the law that says that CoefOf answers as its model does. -/
import Derived.Test.YthhbbfjmfcnmaaaLawB
namespace Go.Proofs.Ythhbbfjmfcnmaaa
open Go.RowKit

set_option maxHeartbeats 1000000 in
theorem exactCoefOf_walk (a b c d n v : Int) (w : World) :
    Calls Try.prog 13 #[.agg #[.int .i64 a, .int .i64 b, .int .i64 c, .int .i64 d, .int .i64 n], .int .i64 v] w fun e w' => e = .returned (.bool true) ∧ Below w.heap.size w w' := by
  go_enter Try.func13, Try.ntmps13
  go_wp2_with fail
  generalize hW : w.alloc (.cells #[.int .i64 a, .int .i64 b, .int .i64 c, .int .i64 d, .int .i64 n] 61) = W
  have hx : C5 W w.heap.size a b c d n := by subst hW; exact (by refine ⟨?_, ?_, ?_, ?_, ?_, ?_⟩ <;> first | (simp [go_sem]; done) | (simp; omega))
  have hw0 : Below w.heap.size w W := by subst hW; go_grown
  clear hW
  obtain ⟨x0, x1, x2, x3, x4, x5⟩ := id hx
  refine (toTerm_to a b c d n _).mono ?_
  rintro e w' ⟨rfl, rfl⟩
  go_wp2_with fail
  refine (specCoefOf_any _ _ _ _ _ _ _).mono ?_
  rintro e w1 ⟨rfl, hb1⟩
  have hbb1 := below_on (w := W) (by go_grown) hb1
  have hs1 : W.heap.size ≤ w1.heap.size := hbb1.size
  obtain ⟨x0, x1, x2, x3, x4, x5⟩ := c5_on hx hbb1
  go_wp2_with fail
  refine (toTerm_to a b c d n _).mono ?_
  rintro e w' ⟨rfl, rfl⟩
  go_wp2_with fail
  refine (CoefOf_any _ _ _ _ _ _ _).mono ?_
  rintro e w3 ⟨rfl, hb3⟩
  have hbb3 := below_on (w := W) (by go_grown) hb3
  go_wp2
  go_ret
  exact ⟨rfl, below_on hw0 hbb3⟩

end Go.Proofs.Ythhbbfjmfcnmaaa
