/- Contracts of the laws' own comparisons and copies. -/
import Derived.Test.YtbppcpaodfjpkaaDoorHeld
import Derived.Test.YtbppcpaodfjpkaaDoorSpecB
namespace Go.Proofs.YtbppcpaodfjpkaaDoor
open Go.RowKit

theorem c4_on {W w' : World} {x : Nat} {a b c d : Int} (h : C4 W x a b c d) (hb : Below W.heap.size W w') : C4 w' x a b c d :=
  have f : ∀ o, w'.cell? ⟨x, o, none⟩ = W.cell? ⟨x, o, none⟩ := fun o => (bcell hb).1 x o h.1
  ⟨Nat.lt_of_lt_of_le h.1 hb.size, (f 0).trans h.2.1, (f 1).trans h.2.2.1, (f 2).trans h.2.2.2.1, (f 3).trans h.2.2.2.2⟩


set_option maxHeartbeats 400000 in
theorem toTerm_to (a b c d n : Int) (w : World) :
    Calls Tryd.prog 45 #[.agg #[.int .i64 a, .int .i64 b, .int .i64 c, .int .i64 d, .int .i64 n]] w fun e w' => e = .returned (.agg #[.int .i64 a, .int .i64 b, .int .i64 c, .int .i64 d, .int .i64 n]) ∧ ((w.alloc (.cells #[.int .i64 a, .int .i64 b, .int .i64 c, .int .i64 d, .int .i64 n] 23)).alloc (.cells #[.int .i64 a, .int .i64 b, .int .i64 c, .int .i64 d, .int .i64 n] 31)).alloc (.cells #[.int .i64 a, .int .i64 b, .int .i64 c, .int .i64 d, .int .i64 n] 31) = w' := by
  go_enter Tryd.func45, Tryd.ntmps45
  go_wp2
  exact bodyPost_ret (v := .agg #[.int .i64 a, .int .i64 b, .int .i64 c, .int .i64 d, .int .i64 n]) (by simp [results, Tryd.results45, go_sem]) rfl ⟨rfl, rfl⟩

set_option maxHeartbeats 400000 in
theorem eqTerm_same (a b c d n : Int) (w : World) :
    Calls Tryd.prog 49 #[.agg #[.int .i64 a, .int .i64 b, .int .i64 c, .int .i64 d, .int .i64 n], .agg #[.int .i64 a, .int .i64 b, .int .i64 c, .int .i64 d, .int .i64 n]] w fun e w' => e = .returned (.bool true) ∧ (w.alloc (.cells #[.int .i64 a, .int .i64 b, .int .i64 c, .int .i64 d, .int .i64 n] 31)).alloc (.cells #[.int .i64 a, .int .i64 b, .int .i64 c, .int .i64 d, .int .i64 n] 31) = w' := by
  go_enter Tryd.func49, Tryd.ntmps49
  go_wp2
  go_ret
  exact ⟨rfl, rfl⟩


end Go.Proofs.YtbppcpaodfjpkaaDoor
