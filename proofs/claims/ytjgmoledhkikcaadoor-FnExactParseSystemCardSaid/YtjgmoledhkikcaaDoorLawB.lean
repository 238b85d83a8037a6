/- Contracts of the laws' own comparisons and copies. -/
import Derived.Test.YtjgmoledhkikcaaDoorHeld
import Derived.Test.YtjgmoledhkikcaaDoorSpecB
namespace Go.Proofs.YtjgmoledhkikcaaDoor
open Go.RowKit

theorem c4_on {W w' : World} {x : Nat} {a b c d : Int} (h : C4 W x a b c d) (hb : Below W.heap.size W w') : C4 w' x a b c d :=
  have f : ∀ o, w'.cell? ⟨x, o, none⟩ = W.cell? ⟨x, o, none⟩ := fun o => (bcell hb).1 x o h.1
  ⟨Nat.lt_of_lt_of_le h.1 hb.size, (f 0).trans h.2.1, (f 1).trans h.2.2.1, (f 2).trans h.2.2.2.1, (f 3).trans h.2.2.2.2⟩



set_option maxHeartbeats 400000 in
theorem eqTerm_same (a b c d n : Int) (w : World) :
    Calls Tryd.prog 36 #[.agg #[.int .i64 a, .int .i64 b, .int .i64 c, .int .i64 d, .int .i64 n], .agg #[.int .i64 a, .int .i64 b, .int .i64 c, .int .i64 d, .int .i64 n]] w fun e w' => e = .returned (.bool true) ∧ (w.alloc (.cells #[.int .i64 a, .int .i64 b, .int .i64 c, .int .i64 d, .int .i64 n] 36)).alloc (.cells #[.int .i64 a, .int .i64 b, .int .i64 c, .int .i64 d, .int .i64 n] 36) = w' := by
  go_enter Tryd.func36, Tryd.ntmps36
  go_wp2
  go_ret
  exact ⟨rfl, rfl⟩


end Go.Proofs.YtjgmoledhkikcaaDoor
