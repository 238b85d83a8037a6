/- Contracts of the small functions on kinds; the size of a list of formulas (szFormulaS, szFormula). -/
import Derived.Test.YtjgmoledhkikcaaDoorTree
import Derived.Deep.Matrix
import Derived.Laws.Rows
namespace Go.Proofs.YtjgmoledhkikcaaDoor
open Go.RowKit

theorem ret_int' {k : IntKind} {a b : Int} (h : a = b) : Ending.returned (.int k a) = .returned (.int k b) := by rw [h]

/-- What the sizes of the parts of parts add up to. -/
def Fo.deep : Fo → Nat
  | .nil => 0
  | .cons _ s r => s.size + r.deep
theorem Fo.size_eq (f : Fo) : f.size = f.len + f.deep := by
  induction f with
  | nil => rfl
  | cons h s r _ ih => simp only [Fo.size, Fo.len, Fo.deep]; omega

def szI (n left : Nat) : Int := if n ≤ left then (left : Int) - n else -1

theorem szI_neg {n left : Nat} (h : left < n) : szI n left = -1 := by unfold szI; rw [if_neg (by omega)]
theorem szI_pos {n left : Nat} (h : n ≤ left) : szI n left = ((left - n : Nat) : Int) := by unfold szI; rw [if_pos h]; omega

theorem szI_step {a b l : Nat} (h : a ≤ l) : szI b (l - a) = szI (a + b) l := by
  unfold szI
  by_cases g : b ≤ l - a
  · rw [if_pos g, if_pos (by omega)]; omega
  · rw [if_neg g, if_neg (by omega)]

def SzR (f : Fo) (left b o lo : Nat) (w : World) (v i : Value) (wr : World) : Prop :=
  ∃ (k l : Nat) (r : Fo), i = .int .i64 k ∧ v = .int .i64 l ∧ k + r.len = f.len ∧ l ≤ 1048576 ∧ r.size ≤ f.size ∧ szI r.deep l = szI f.size left ∧ FEl wr lo r b (o + k * 10) ∧ Below w.heap.size w wr

end Go.Proofs.YtjgmoledhkikcaaDoor
