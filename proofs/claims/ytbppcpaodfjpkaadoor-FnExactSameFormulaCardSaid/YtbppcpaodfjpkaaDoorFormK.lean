/- The contract of nestedIn: how deep quantifiers are nested in a node. -/
import Derived.Test.YtbppcpaodfjpkaaDoorFormI
import Derived.Deep.RegionWith
namespace Go.Proofs.YtbppcpaodfjpkaaDoor
open Go.RowKit

/-- One more for a quantifier. -/
def qN (h : FH) : Nat := if qB h.k = true then 1 else 0
/-- The greatest depth of nested quantifiers in the formulas of a list. -/
def Fo.nst : Fo → Nat
  | .nil => 0
  | .cons h s r => max (s.nst + qN h) r.nst
theorem qN_le (h : FH) : qN h ≤ 1 := by unfold qN; split <;> omega
theorem nst_le (f : Fo) : f.nst ≤ f.size := by
  induction f with
  | nil => exact Nat.le_refl _
  | cons h s r ih1 ih2 => have := qN_le h; simp only [Fo.nst, Fo.size]; omega

theorem kind_t (b : Bool) (w : World) : Calls Tryd.prog 126 #[.agg #[.bool b]] w (IntT (if b then 0 else 1) w) := by
  cases b
  all_goals
    go_enter Tryd.func126, Tryd.ntmps126
    go_wp2
    go_ret
    exact ⟨rfl, by go_grown⟩
theorem kind_a (x : Array Value) (w : World) : Calls Tryd.prog 121 #[.agg x] w (IntT 2 w) := by
  go_enter Tryd.func121, Tryd.ntmps121
  go_wp2
  go_ret
  exact ⟨rfl, by go_grown⟩
theorem kind_n (t : TypeId) (y : Value) (w : World) : Calls Tryd.prog 128 #[.agg #[.iface t y]] w (IntT 3 w) := by
  go_enter Tryd.func128, Tryd.ntmps128
  go_wp2
  go_ret
  exact ⟨rfl, by go_grown⟩
theorem kind_p (b : Bool) (t t' : TypeId) (y y' : Value) (w : World) : Calls Tryd.prog 130 #[.agg #[.bool b, .iface t y, .iface t' y']] w (IntT (if b then 4 else 5) w) := by
  cases b
  all_goals
    go_enter Tryd.func130, Tryd.ntmps130
    go_wp2
    go_ret
    exact ⟨rfl, by go_grown⟩
theorem kind_b (b : Bool) (v : Int) (t : TypeId) (y : Value) (w : World) : Calls Tryd.prog 123 #[.agg #[.bool b, .int .i64 v, .iface t y]] w (IntT (if b then 6 else 7) w) := by
  cases b
  all_goals
    go_enter Tryd.func123, Tryd.ntmps123
    go_wp2
    go_ret
    exact ⟨rfl, by go_grown⟩

end Go.Proofs.YtbppcpaodfjpkaaDoor
