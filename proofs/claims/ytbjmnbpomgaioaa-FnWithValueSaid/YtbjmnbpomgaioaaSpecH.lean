/- Contracts of the model's ScaleTerm. -/
import Derived.Test.YtbjmnbpomgaioaaSpecD
import Derived.Test.YtbjmnbpomgaioaaSpecE
import Derived.Test.YtbjmnbpomgaioaaHeld
namespace Go.Proofs.Ytbjmnbpomgaioaa
open Go.RowKit

end Go.Proofs.Ytbjmnbpomgaioaa
