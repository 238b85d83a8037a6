/- Contracts of NestedCount and IsOpen of the model and of the program, from those of FormulaValid and nestedIn. -/
import Derived.Test.YtbppcpaodfjpkaaDoorFormL
namespace Go.Proofs.YtbppcpaodfjpkaaDoor
open Go.RowKit

def ncI (h : FH) (f : Fo) : Int := if vfB h f = true then ((f.nst + qN h : Nat) : Int) else -1
def opB (h : FH) (f : Fo) : Bool := vfB h f && decide (f.nst + qN h = 0)

theorem vf_parts {h : FH} {f : Fo} (hv : vfB h f = true) : ownB h f.len = true ∧ f.okB = true ∧ f.size + 1 ≤ 600 := by
  have := (vf_cond h f).1 hv
  simp only [Bool.and_eq_true] at this
  exact ⟨this.1.1, this.1.2, this.2⟩

theorem op_nc (h : FH) (f : Fo) : (ncI h f == 0) = opB h f := by
  unfold ncI opB
  cases vfB h f with
  | true =>
    rw [if_pos rfl, Bool.true_and]
    by_cases e : f.nst + qN h = 0
    · rw [e]; rfl
    · rw [decide_eq_false e, beq_eq_false_iff_ne]; omega
  | false => rfl

end Go.Proofs.YtbppcpaodfjpkaaDoor
