/- Strings in a walk: the model's l17Find. -/
import Derived.Test.YtknocndfjnjjfaaDoorStA
namespace Go.Proofs.YtknocndfjnjjfaaDoor
open Go.RowKit

/-- Where a byte stands first, or -1. -/
def fndI (c : UInt8) : List UInt8 → Int → Int
  | [], _ => -1
  | x :: r, k => if x = c then k else fndI c r (k + 1)

end Go.Proofs.YtknocndfjnjjfaaDoor
