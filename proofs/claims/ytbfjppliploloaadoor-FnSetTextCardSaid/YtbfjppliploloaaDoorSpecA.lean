/- Contracts of the model's small functions of chapter 1: lists, validity, coefficients, values. -/
import Derived.Test.YtbfjppliploloaaDoorBas
namespace Go.Proofs.YtbfjppliploloaaDoor
open Go.RowKit

set_option maxHeartbeats 400000 in
theorem l1In_any (n l h : Int) (w : World) :
    Calls Tryd.prog 36 #[.int .i64 n, .int .i64 l, .int .i64 h] w fun e w' => e = .returned (.bool (inB n l h)) ∧ w = w' := by
  go_enter Tryd.func36, Tryd.ntmps36
  go_wp2
  all_goals (go_ret; exact ⟨ret_bool (by simp only [inB]; simp; try omega), rfl⟩)

end Go.Proofs.YtbfjppliploloaaDoor
