/- Contracts of EvalTerm of the program. -/
import Derived.Test.YtbjmnbpomgaioaaImplA
namespace Go.Proofs.Ytbjmnbpomgaioaa
open Go.RowKit

set_option maxHeartbeats 400000 in
theorem CoefOf_in (a b c d n v : Int) (w : World) (h0 : 0 ≤ v) (h1 : v < 4) :
    Calls Try.prog 121 #[.agg #[.int .i64 a, .int .i64 b, .int .i64 c, .int .i64 d, .int .i64 n], .int .i64 v] w fun e w' => e = .returned (.int .i64 (sel a b c d v 0)) ∧ ((w.alloc (.cells #[.int .i64 a, .int .i64 b, .int .i64 c, .int .i64 d, .int .i64 n] 39)).alloc (.cells #[.int .i64 a, .int .i64 b, .int .i64 c, .int .i64 d, .int .i64 n] 39)).alloc (.cells #[.int .i64 a, .int .i64 b, .int .i64 c, .int .i64 d, .int .i64 n] 3) = w' := by
  have h' : v = 0 ∨ v = 1 ∨ v = 2 ∨ v = 3 := by omega
  clear h0 h1
  rcases h' with rfl | rfl | rfl | rfl
  all_goals
    go_enter Try.func121, Try.ntmps121
    go_wp2_with (first | (go_at_call 61; refine (isVar_yes _ _ (by omega) (by omega)).mono ?_; rintro e w' ⟨rfl, rfl⟩) | (go_at_call 72; refine (multiples_any _ _ _ _ _ _).mono ?_; rintro e w' ⟨rfl, rfl⟩))
    go_ret
    exact ⟨rfl, rfl⟩


end Go.Proofs.Ytbjmnbpomgaioaa
