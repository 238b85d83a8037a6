/- What the model draws as the arguments of ProgressionSet: two numbers. -/
import Derived.Test.YtbfjppliploloaaDoorCode
namespace Go.Proofs.YtbfjppliploloaaDoor
open Go.RowKit

def BigN (x : Int) : Prop := -9223372036854775808 ≤ x ∧ x ≤ 9223372036854775807
theorem opened_below {w w1 w2 : World} {r : Nat} {p K : Int} (hb : Below w.heap.size w w1) (hr : w.heap.size ≤ r) (ht : Turned r p K w1 w2) : Below w.heap.size w w2 :=
  hb.trans (below_only ht.1 hb.size hr)

end Go.Proofs.YtbfjppliploloaaDoor
