/- The walks of the laws that say that AtomValid and TruthAtom answer as their models do. -/
import Derived.Test.YtjgmoledhkikcaaDoorAtB
import Derived.Test.YtjgmoledhkikcaaDoorLawB
namespace Go.Proofs.YtjgmoledhkikcaaDoor
open Go.RowKit

set_option maxHeartbeats 400000 in
theorem eqAtom_same (k m a b c d n : Int) (w : World) :
    Calls Tryd.prog 21 #[.agg #[.int .i64 k, .int .i64 m, .int .i64 a, .int .i64 b, .int .i64 c, .int .i64 d, .int .i64 n], .agg #[.int .i64 k, .int .i64 m, .int .i64 a, .int .i64 b, .int .i64 c, .int .i64 d, .int .i64 n]] w fun e w' => e = .returned (.bool true) ∧ Below w.heap.size w w' := by
  go_enter Tryd.func21, Tryd.ntmps21
  go_wp2_with (go_at_call 36; refine (eqTerm_same _ _ _ _ _ _).mono ?_; rintro e w' ⟨rfl, rfl⟩)
  go_ret
  exact ⟨rfl, by go_grown⟩

end Go.Proofs.YtjgmoledhkikcaaDoor
