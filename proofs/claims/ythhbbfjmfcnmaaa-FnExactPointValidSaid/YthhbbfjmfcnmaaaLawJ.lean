/- The walk of the law that says that PointValid answers as its model does. -/
import Derived.Test.YthhbbfjmfcnmaaaLawB
import Derived.Test.YthhbbfjmfcnmaaaImplA
namespace Go.Proofs.Ythhbbfjmfcnmaaa
open Go.RowKit

set_option maxHeartbeats 400000 in
theorem exactPointValid_walk (a b c d : Int) (w : World) :
    Calls Try.prog 12 #[.agg #[.int .i64 a, .int .i64 b, .int .i64 c, .int .i64 d]] w fun e w' => e = .returned (.bool true) ∧ Below w.heap.size w w' := by
  go_enter Try.func12, Try.ntmps12
  go_wp2_with (first | (go_at_call 49; refine (toPoint_any _ _ _ _ _).mono ?_; rintro e w' ⟨rfl, rfl⟩) | (go_at_call 48; refine (specPointValid_any _ _ _ _ _).mono ?_; rintro e w' ⟨rfl, rfl⟩) | (go_at_call 18; refine (PointValid_any _ _ _ _ _).mono ?_; rintro e w' ⟨rfl, rfl⟩))
  go_ret
  exact ⟨rfl, by go_grown⟩

end Go.Proofs.Ythhbbfjmfcnmaaa
