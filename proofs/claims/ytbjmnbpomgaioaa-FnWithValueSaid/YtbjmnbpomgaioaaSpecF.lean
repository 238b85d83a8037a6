/- Contracts of the model's AddTerms. -/
import Derived.Test.YtbjmnbpomgaioaaSpecD
import Derived.Test.YtbjmnbpomgaioaaSpecE
import Derived.Test.YtbjmnbpomgaioaaHeld
import Derived.Test.YtbjmnbpomgaioaaSpecG
namespace Go.Proofs.Ytbjmnbpomgaioaa
open Go.RowKit

end Go.Proofs.Ytbjmnbpomgaioaa
