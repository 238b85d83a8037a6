/- The walks of the laws that say that ValueOf answer as their models do. -/
import Derived.Test.YthhbbfjmfcnmaabLawB
import Derived.Test.YthhbbfjmfcnmaabImplA
import Derived.Test.YthhbbfjmfcnmaabSpecV
namespace Go.Proofs.Ythhbbfjmfcnmaab
open Go.RowKit

set_option maxHeartbeats 1000000 in
theorem exactValueOf_walk (a b c d v : Int) (w : World) :
    Calls Try.prog 3 #[.agg #[.int .i64 a, .int .i64 b, .int .i64 c, .int .i64 d], .int .i64 v] w fun e w' => e = .returned (.bool true) ∧ Below w.heap.size w w' := by
  go_enter Try.func3, Try.ntmps3
  go_wp2_with fail
  generalize hW : w.alloc (.cells #[.int .i64 a, .int .i64 b, .int .i64 c, .int .i64 d] 23) = W
  have hx : C4 W w.heap.size a b c d := by subst hW; exact (by refine ⟨?_, ?_, ?_, ?_, ?_⟩ <;> first | (simp [go_sem]; done) | (simp; omega))
  have hw0 : Below w.heap.size w W := by subst hW; go_grown
  clear hW
  obtain ⟨x0, x1, x2, x3, x4⟩ := id hx
  refine (toPoint_any a b c d _).mono ?_
  rintro e w' ⟨rfl, rfl⟩
  go_wp2_with fail
  refine (specValueOf_any _ _ _ _ _ _).mono ?_
  rintro e w1 ⟨rfl, hb1⟩
  have hbb1 := below_on (w := W) (by go_grown) hb1
  have hs1 : W.heap.size ≤ w1.heap.size := hbb1.size
  obtain ⟨x0, x1, x2, x3, x4⟩ := c4_on hx hbb1
  go_wp2_with fail
  refine (toPoint_any a b c d _).mono ?_
  rintro e w' ⟨rfl, rfl⟩
  go_wp2_with fail
  refine (ValueOf_any _ _ _ _ _ _).mono ?_
  rintro e w3 ⟨rfl, hb3⟩
  have hbb3 := below_on (w := W) (by go_grown) hb3
  go_wp2
  go_ret
  exact ⟨rfl, below_on hw0 hbb3⟩

end Go.Proofs.Ythhbbfjmfcnmaab
