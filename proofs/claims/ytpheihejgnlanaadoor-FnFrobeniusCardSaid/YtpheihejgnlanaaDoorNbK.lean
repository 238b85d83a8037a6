/- The program's rounded quotients. -/
import Derived.Test.YtpheihejgnlanaaDoorNbJ
namespace Go.Proofs.YtpheihejgnlanaaDoor
open Go.RowKit

def flT (a b : Int) : Int × Bool := if (numB a && inB b 1 100000) = true then (a / b, true) else (0, false)
def ceT (a b : Int) : Int × Bool := if (numB a && inB b 1 100000) = true then (-(-a / b), true) else (0, false)

end Go.Proofs.YtpheihejgnlanaaDoor
