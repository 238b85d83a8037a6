/- ShiftSet, StretchSet, DivideSet of the program. -/
import Derived.Test.YtbfjppliploloaaDoorSetK
import Derived.Test.YtbfjppliploloaaDoorNumC
namespace Go.Proofs.YtbfjppliploloaaDoor
open Go.RowKit

/-- What ShiftSet, StretchSet, DivideSet answer. -/
noncomputable def shR (h l : List UInt8) (k : Int) : (List UInt8 × List UInt8) × Bool := if (svS h l && decide (0 ≤ k ∧ k ≤ 400)) = true then resA (shA (atS h l) k.toNat) else (([], []), false)
noncomputable def stR (h l : List UInt8) (k : Int) : (List UInt8 × List UInt8) × Bool := if (svS h l && decide (1 ≤ k ∧ k ≤ 240)) = true then resA (stA (atS h l) k.toNat) else (([], []), false)
noncomputable def dvR (h l : List UInt8) (k : Int) : (List UInt8 × List UInt8) × Bool := if (svS h l && decide (1 ≤ k ∧ k ≤ 240)) = true then resA (dvA (atS h l) k.toNat) else (([], []), false)
end Go.Proofs.YtbfjppliploloaaDoor
