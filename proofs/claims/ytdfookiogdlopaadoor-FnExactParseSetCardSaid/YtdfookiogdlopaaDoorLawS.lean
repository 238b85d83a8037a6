/- The laws' own functions over sets: sizes, copies, comparisons. -/
import Derived.Test.YtdfookiogdlopaaDoorSetD
namespace Go.Proofs.YtdfookiogdlopaaDoor
open Go.RowKit

set_option maxHeartbeats 1000000 in
theorem eqSet_same (h l : List UInt8) (w : World) :
    Calls Tryd.prog 6 #[.agg #[.string (bs h), .string (bs l)], .agg #[.string (bs h), .string (bs l)]] w fun e w' => e = .returned (.bool true) ∧ Below w.heap.size w w' := by
  go_enter Tryd.func6, Tryd.ntmps6
  go_wp2
  go_ret
  exact ⟨rfl, by go_grown⟩
end Go.Proofs.YtdfookiogdlopaaDoor
