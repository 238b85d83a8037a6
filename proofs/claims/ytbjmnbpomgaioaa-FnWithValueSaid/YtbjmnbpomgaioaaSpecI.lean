/- Contracts of the model's SubstTerm. -/
import Derived.Test.YtbjmnbpomgaioaaSpecD
import Derived.Test.YtbjmnbpomgaioaaSpecE
import Derived.Test.YtbjmnbpomgaioaaHeld
import Derived.Test.YtbjmnbpomgaioaaImplE
namespace Go.Proofs.Ytbjmnbpomgaioaa
open Go.RowKit

end Go.Proofs.Ytbjmnbpomgaioaa
