/- The program's functions that recover: tried, BezoutOf, FloorDiv, CeilDiv. -/
import Derived.Test.YtpheihejgnlanaaDoorNbH
import Derived.Defers
import Derived.Recover
namespace Go.Proofs.YtpheihejgnlanaaDoor
open Go.RowKit

end Go.Proofs.YtpheihejgnlanaaDoor
